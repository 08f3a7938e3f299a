/- Contracts and plain mathematics of some packages' functions, laid together; conditions as each one says. -/
import Derived.Test.YtjgbfpkjkglfnaaDoorLbNa
import Derived.Laws.Cover1
import Derived.Laws.AppendOwnNone
import Derived.BigQuiet
namespace Go.Proofs.YtjgbfpkjkglfnaaDoor.Lb
open Go.RowKit Ch Jt
set_option linter.unusedSimpArgs false
set_option linter.unusedVariables false

theorem bl_iff : ∀ a b : List UInt8, Op.bytesLess a b = decide (Lib.compareBytes a b < 0)
  | [], [] => by simp [Op.bytesLess, Lib.compareBytes]
  | _ :: _, [] => by simp [Op.bytesLess, Lib.compareBytes]
  | [], _ :: _ => by simp [Op.bytesLess, Lib.compareBytes]
  | x :: a, y :: b => by
    unfold Op.bytesLess Lib.compareBytes
    have ih := bl_iff a b
    by_cases h1 : x < y
    · simp [h1]
    · by_cases h2 : y < x
      · have hne : (x == y) = false := by rw [beq_eq_false_iff_ne]; rintro rfl; exact h1 h2
        simp [h1, h2, hne]
      · have he : x = y := by apply UInt8.toNat_inj.1; rw [UInt8.lt_iff_toNat_lt] at *; omega
        subst he
        simp [h1, ih]
/-- how a name stands to another one's -/
theorem les_lt {x p : ByteArray} (h : Lib.compareBytes x.data.toList p.data.toList < 0) : Op.bytesLess p.toList x.toList = false ∧ (p.toList == x.toList) = false := by
  rw [Lib.toList_data, Lib.toList_data, bl_iff, cb_anti]
  refine ⟨decide_eq_false (by omega), beq_eq_false_iff_ne.2 fun e => ?_⟩
  rw [e, cb_self] at h; omega
theorem les_eq {x p : ByteArray} (h : x = p) : Op.bytesLess p.toList x.toList = false ∧ (p.toList == x.toList) = true := by
  subst h
  rw [Lib.toList_data, bl_iff, cb_self]
  exact ⟨by decide, by simp⟩
theorem les_gt {x p : ByteArray} (h : ¬ Lib.compareBytes x.data.toList p.data.toList < 0) (hne : x ≠ p) : Op.bytesLess p.toList x.toList = true ∧ (p.toList == x.toList) = false := by
  rw [Lib.toList_data, Lib.toList_data, bl_iff, cb_anti]
  have h0 : Lib.compareBytes x.data.toList p.data.toList ≠ 0 := fun e => hne (ba_ext (cb_zero _ _ e))
  exact ⟨decide_eq_true (by omega), beq_eq_false_iff_ne.2 fun e => hne (ba_ext e.symm)⟩
def insK (o : List FB) (p : FB) (k : Nat) : List FB := o.take k ++ p :: o.drop k
theorem ins_perm (o : List FB) (p : FB) (k : Nat) : (insK o p k).Perm (o ++ [p]) := by
  unfold insK
  refine List.perm_middle.trans ?_
  rw [List.take_append_drop]
  exact (List.perm_append_singleton p o).symm
theorem ins_asc {o : List FB} {p : FB} {k : Nat} (ha : Asc o) (hk : k ≤ o.length) (hl : ∀ (h : 0 < k), cfN (o[k - 1]'(by omega)) p < 0) (hr : ∀ i (h : i < o.length), k ≤ i → ¬ cfN o[i] p < 0) : Asc (insK o p k) := by
  unfold Asc insK
  rw [List.pairwise_append]
  have hp := List.pairwise_iff_getElem.1 ha
  refine ⟨List.Pairwise.sublist (List.take_sublist _ _) ha, ?_, fun x hx y hy => ?_⟩
  · rw [List.pairwise_cons]
    refine ⟨fun y hy => ?_, List.Pairwise.sublist (List.drop_sublist _ _) ha⟩
    obtain ⟨i, hi, rfl⟩ := List.mem_iff_getElem.1 hy
    rw [List.getElem_drop]
    exact hr _ _ (by omega)
  · obtain ⟨i, hi, rfl⟩ := List.mem_iff_getElem.1 hx
    rw [List.length_take] at hi
    rw [List.getElem_take]
    have h1 : cfN o[i] p < 0 := by
      have hk0 : 0 < k := by omega
      have h := hl hk0
      rcases Nat.lt_or_eq_of_le (show i ≤ k - 1 by omega) with g | g
      · have h2 := hp i (k - 1) (by omega) (by omega) g
        by_cases h3 : cfN o[i] o[k - 1] < 0
        · exact cb_trans _ _ _ h3 h
        · have e := cf_eq h3 h2
          unfold cfN at h ⊢
          rw [e]; exact h
      · subst g; exact h
    rcases List.mem_cons.1 hy with rfl | hy
    · rw [cf_anti]; omega
    · obtain ⟨j, hj, rfl⟩ := List.mem_iff_getElem.1 hy
      rw [List.getElem_drop]
      rw [List.length_drop] at hj
      exact hp i (k + j) (by omega) (by omega) (by omega)
/-- is a pair of that name among those from k on? -/
def twK (o : List FB) (p : FB) (k : Nat) : Bool := (o.drop k).any fun x => decide (x.1 = p.1)
theorem tw_step {o : List FB} {p : FB} {k : Nat} (hk : k < o.length) : twK o p k = (twK o p (k + 1) || decide (o[k].1 = p.1)) := by
  unfold twK
  rw [List.drop_eq_getElem_cons hk, List.any_cons, Bool.or_comm]
theorem tw_end (o : List FB) (p : FB) : twK o p o.length = false := by unfold twK; rw [List.drop_length]; rfl
theorem onc_ins {o : List FB} {p : FB} {k : Nat} (hk : k ≤ o.length) (hl : ∀ i (h : i < o.length), i < k → o[i].1 ≠ p.1) : Onc (insK o p k) ↔ Onc o ∧ twK o p k = false := by
  have h1 : Onc (insK o p k) ↔ Onc (p :: o) := onc_iff ((ins_perm o p k).trans (List.perm_append_singleton p o))
  rw [h1]
  unfold Onc
  rw [List.map_cons, List.nodup_cons]
  constructor
  · rintro ⟨a, b⟩
    refine ⟨b, ?_⟩
    unfold twK
    rw [List.any_eq_false]
    intro x hx
    simp only [decide_eq_true_eq]
    intro e
    exact a (e ▸ List.mem_map_of_mem (List.mem_of_mem_drop hx))
  · rintro ⟨b, a⟩
    refine ⟨fun hm => ?_, b⟩
    obtain ⟨x, hx, e⟩ := List.mem_map.1 hm
    obtain ⟨i, hi, rfl⟩ := List.mem_iff_getElem.1 hx
    by_cases hik : i < k
    · exact hl i hi hik e
    · unfold twK at a
      rw [List.any_eq_false] at a
      have hd : o[i] ∈ o.drop k := by
        rw [List.mem_iff_getElem]
        refine ⟨i - k, by rw [List.length_drop]; omega, ?_⟩
        rw [List.getElem_drop]
        congr 1
        omega
      exact a _ hd (by simpa using e)
end Go.Proofs.YtjgbfpkjkglfnaaDoor.Lb
namespace Go.Proofs.YtjgbfpkjkglfnaaDoor.Lb
open Go.RowKit Ch Jt
set_option linter.unusedSimpArgs false
set_option linter.unusedVariables false

def OfW (fs : List FB) (w : World) (e : Ending) (w' : World) : Prop := ∃ v, e = .returned (.tuple #[v, .int .i64 (ofZ fs)]) ∧ OwF 48 w.heap.size v (ofA fs) w' ∧ Below w.heap.size w w'
theorem ofw_bad {fs : List FB} {w w' : World} (h : fs.any badB = true) (hb : Below w.heap.size w w') : OfW fs w (.returned (.tuple #[.slice none 0 0, .int .i64 3])) w' := by
  have e1 : ofA fs = [] := by unfold ofA; rw [if_pos h]
  have e2 : ofZ fs = 3 := by unfold ofZ; rw [if_pos h]
  unfold OfW; rw [e1, e2]
  exact ⟨_, rfl, World.ownsRow_nil _ _ _ _, hb⟩
theorem ofw_dup {fs : List FB} {w w' : World} (h : fs.any badB = false) (h2 : ¬ Onc fs) (hb : Below w.heap.size w w') : OfW fs w (.returned (.tuple #[.slice none 0 0, .int .i64 10])) w' := by
  have e1 : ofA fs = [] := by unfold ofA; rw [if_neg (by rw [h]; decide), if_neg h2]
  have e2 : ofZ fs = 10 := by unfold ofZ; rw [if_neg (by rw [h]; decide), if_neg h2]
  unfold OfW; rw [e1, e2]
  exact ⟨_, rfl, World.ownsRow_nil _ _ _ _, hb⟩
theorem ofw_ok {fs os : List FB} {v : Value} {w w' : World} (h : fs.any badB = false) (h2 : Onc fs) (hp : os.Perm fs) (ha : Asc os) (ho : OwF 48 w.heap.size v os w') (hb : Below w.heap.size w w') : OfW fs w (.returned (.tuple #[v, .int .i64 0])) w' := by
  have e1 : ofA fs = srtL fs := by unfold ofA; rw [if_neg (by rw [h]; decide), if_pos h2]
  have e2 : ofZ fs = 0 := by unfold ofZ; rw [if_neg (by rw [h]; decide), if_pos h2]
  obtain rfl := srt_one hp ha h2
  unfold OfW; rw [e1, e2]
  exact ⟨_, rfl, ho, hb⟩
theorem any_no {fs : List FB} (h : ∀ k (hk : k < fs.length), badB fs[k] = false) : fs.any badB = false := by
  rw [List.any_eq_false]
  intro f hf
  obtain ⟨k, hk, rfl⟩ := List.mem_iff_getElem.1 hf
  rw [h k hk]; simp
theorem rd_cells {g off cap n : Nat} {fs : List FB} {w : World} (h : RdF (.slice (some ⟨g, off, none⟩) n cap) fs w) (j : Nat) (v : Value) (hv : (fC fs)[j]? = some v) : w.cell? ((⟨g, off, none⟩ : Addr).add j) = some v := by
  have hj : j < fs.length * 2 := by
    rcases Nat.lt_or_ge j (fs.length * 2) with h | h
    · exact h
    · rw [List.getElem?_eq_none (by rw [fC_len]; exact h)] at hv; cases hv
  obtain ⟨g2, off2, e, _, hat⟩ := rdf_at2 h (by omega)
  injection e with e
  injection e with e1 e2 _
  subst e1 e2
  have ea : (⟨g, off, none⟩ : Addr).add j = ⟨g, off + j, none⟩ := by unfold Addr.add; split <;> simp_all
  rw [ea]
  have hq : j / 2 < fs.length := by omega
  obtain ⟨a0, a1⟩ := fC_at fs (j / 2) hq
  obtain ⟨b0, b1⟩ := hat (j / 2) hq
  rcases Nat.mod_two_eq_zero_or_one j with h | h
  · have ej : j = j / 2 * 2 := by omega
    rw [ej] at hv ⊢
    rw [b0, ← a0, hv]
  · have ej : j = j / 2 * 2 + 1 := by omega
    rw [ej] at hv ⊢
    rw [← Nat.add_assoc, b1, ← a1, hv]
theorem fC_append (a b : List FB) : fC (a ++ b) = fC a ++ fC b := by unfold fC; rw [List.flatMap_append]
/-- the first k of a row -/
theorem rd_first {g cap n : Nat} {fs : List FB} {w : World} (h : RdF (.slice (some ⟨g, 0, none⟩) n cap) fs w) (k : Nat) (j : Nat) (v : Value) (hv : (fC (fs.take k))[j]? = some v) : w.cell? ((⟨g, 0, none⟩ : Addr).add j) = some v := by
  refine rd_cells h j v ?_
  have e : fC fs = fC (fs.take k) ++ fC (fs.drop k) := by rw [← fC_append, List.take_append_drop]
  rw [e, List.getElem?_append_left (List.getElem?_eq_some_iff.1 hv).1]
  exact hv
theorem rd_last {g cap n : Nat} {fs : List FB} {w : World} (h : RdF (.slice (some ⟨g, 0, none⟩) n cap) fs w) {k : Nat} (hk : k ≤ fs.length) (j : Nat) (v : Value) (hv : (fC (fs.drop k))[j]? = some v) : w.cell? ((⟨g, k * 2, none⟩ : Addr).add j) = some v := by
  have e : fC fs = fC (fs.take k) ++ fC (fs.drop k) := by rw [← fC_append, List.take_append_drop]
  have hl : (fC (fs.take k)).length = k * 2 := by rw [fC_len, List.length_take]; omega
  have h2 := rd_cells h (k * 2 + j) v (by rw [e, List.getElem?_append_right (by omega), hl, Nat.add_sub_cancel_left]; exact hv)
  have ea : (⟨g, 0, none⟩ : Addr).add (k * 2 + j) = (⟨g, k * 2, none⟩ : Addr).add j := by unfold Addr.add; split <;> split <;> simp_all <;> omega
  rw [← ea]; exact h2
theorem ins_ok {fs os : List FB} {p : FB} {j k : Nat} {tw tv : Bool} (hk : k ≤ os.length) (HP : os.Perm (fs.take j)) (HPT : fs.take (j + 1) = fs.take j ++ [p]) (HA : Asc os) (HTW : (!decide (Onc os)) = tw) (HTV : (tw || twK os p k) = tv) (HLO : ∀ i (h : i < os.length), i + 1 = k → cfN os[i] p < 0) (HGE : ∀ i (h : i < os.length), k ≤ i → 0 ≤ cfN os[i] p) : (insK os p k).Perm (fs.take (j + 1)) ∧ Asc (insK os p k) ∧ tv = !decide (Onc (insK os p k)) := by
  refine ⟨(ins_perm os p k).trans (by rw [HPT]; exact HP.append_right [p]), ins_asc HA hk (fun h => HLO (k - 1) _ (by omega)) (fun i h hi => by have := HGE i h hi; omega), ?_⟩
  have h2 := onc_ins (p := p) hk (fun i h hi e => by
    have h1 : cfS (os[k - 1]'(by omega)) p.1 < 0 := HLO (k - 1) (by omega) (by omega)
    have h2 := asc_low HA (by omega) h1 h (by omega)
    rw [cfS_self e] at h2
    omega)
  rw [← HTV, ← HTW]
  by_cases h3 : Onc os <;> cases h4 : twK os p k <;> simp [h3, h4, h2]
theorem fC_ins (os : List FB) (p : FB) (k : Nat) : (([] ++ fC (os.take k)) ++ [.string p.1, .string p.2]) ++ fC (os.drop k) = fC (insK os p k) := by
  unfold insK
  rw [fC_append, List.nil_append, List.append_assoc]
  rfl
theorem ins_len (os : List FB) (p : FB) {k : Nat} (hk : k ≤ os.length) : (insK os p k).length = os.length + 1 := by
  rw [(ins_perm os p k).length_eq, List.length_append]; rfl
set_option maxRecDepth 100000 in
set_option maxHeartbeats 16000000 in
theorem OfR_c (ao : Option Addr) (cap : Nat) (fs : List FB) (w : World) (hR : RdF (.slice ao fs.length cap) fs w) (hm : fs.length ≤ 1000) (hs : ∀ f ∈ fs, smallF f) :
    Calls Tryd.prog 8 #[.slice ao fs.length cap] w (OfW fs w) := by
  have HR := Lib.hid hR
  have HS := Lib.hid hs
  clear hR hs
  obtain ⟨ir, hir, hra, hrb, hrc⟩ := info_parts infoR
  go_enter Tryd.func8, Tryd.ntmps8
  go_wp2
  go_loopw [4, 5, 12] (fun ov tv iv wr => ∃ (j : Nat) (os : List FB), j ≤ fs.length ∧ iv = .int .i64 j ∧ tv = .bool (!decide (Onc os)) ∧ Hid (os.Perm (fs.take j)) ∧ Hid (Asc os) ∧ Hid (∀ k (hk : k < fs.length), k < j → badB fs[k] = false) ∧ Hid (OwF 48 w.heap.size ov os wr) ∧ Hid (Below w.heap.size w wr)) (fun _ _ iv _ => fs.length - (intOf iv).toNat)
  case atStart => exact ⟨0, [], by omega, rfl, rfl, Lib.hid (List.Perm.refl _), Lib.hid List.Pairwise.nil, Lib.hid (fun k _ h => absurd h (Nat.not_lt_zero _)), Lib.hid (World.ownsRow_nil _ _ _ _), Lib.hid (Below.refl _ _)⟩
  case round =>
    obtain ⟨j, os, hj, rfl, rfl, HP, HA, HN, HO, HB⟩ := hrel
    obtain ⟨aoo, cpo, hv⟩ := own_lenF HO.out
    subst hv
    have HOL : Hid (os.length = j) := by show _ = _; rw [HP.out.length_eq, List.length_take]; omega
    generalize htw : (!decide (Onc os)) = tw
    have HTW := Lib.hid htw
    clear htw
    by_cases hlt : j < fs.length
    · obtain ⟨g, off, rfl, hg, hat⟩ := rdf_at2 (HR.out.go HB.out) (by omega)
      obtain ⟨p0, p1⟩ := hat j hlt
      have hj0 : (0 : Int) ≤ (j : Int) := by omega
      have hjl : (j : Int) < (fs.length : Int) := by omega
      have hgn : g ≠ wr.heap.size := by omega
      have hsm := HS.out _ (List.getElem_mem hlt)
      have HBD : Hid (badB fs[j] = true → fs.any badB = true) := fun h => by rw [List.any_eq_true]; exact ⟨_, List.getElem_mem hlt, h⟩
      have HND : Hid (badB fs[j] = false → ∀ k (hk : k < fs.length), k < j + 1 → badB fs[k] = false) := fun h => any_take hlt HN.out h
      have HPT : Hid (fs.take (j + 1) = fs.take j ++ [fs[j]]) := List.take_succ_eq_append_getElem hlt
      clear hat
      obtain ⟨⟨x, y⟩, hxy⟩ : ∃ f : FB, fs[j] = f := ⟨_, rfl⟩
      rw [hxy] at p0 p1 hsm HBD HND HPT
      simp only at p0 p1
      clear hxy
      have hx : x.size ≤ 1000 := hsm.1
      have hy : y.size ≤ 1000 := hsm.2
      obtain ⟨WX, hWX, hkX, hbX⟩ : ∃ WX, WX = wr.alloc (.cells #[.string x, .string y] 48) ∧ WX.heap[wr.heap.size]? = some (.cells #[.string x, .string y] 48 (0, 0)) ∧ Below wr.heap.size wr WX := ⟨_, rfl, heap_alloc_new wr _, (Below.refl _ _).alloc (Nat.le_refl _) _⟩
      have HWX := Lib.hid hWX
      have HKX := Lib.hid hkX
      have hlx : wr.heap.size < WX.heap.size := (Array.getElem?_eq_some_iff.1 hkX).1
      have HBX : Hid (Below w.heap.size w WX) := HB.out.trans (hbX.mono HB.out.size)
      have HOX := Lib.hid (HO.out.go hbX)
      have HNR := Lib.hid (fun W => NameR_c x W (by omega))
      have HVR := Lib.hid (valR_c y WX hy)
      clear hWX hkX hbX hsm
      unfold badB at HBD HND
      simp only at HBD HND
      cases hn : namB x.data.toList with
      | false =>
        rw [hn] at HNR HBD
        have HBB := Lib.hid (HBD.out (by simp))
        clear hn HBD HND HVR
        go_wp2_with fail
        rw [← HWX.out]
        clear HWX
        refine (HNR.out _).mono ?_
        rintro e w' ⟨rfl, hw⟩
        rw [← hw]
        clear hw
        go_wp2
        go_ret2
        exact ofw_bad HBB.out HBX.out
      | true =>
        rw [hn] at HNR HBD HND
        cases hv : valB y.data.toList with
        | false =>
          rw [hv] at HVR HBD
          have HBB := Lib.hid (HBD.out (by simp))
          clear hn hv HBD HND
          go_wp2_with fail
          rw [← HWX.out]
          clear HWX
          refine (HNR.out _).mono ?_
          rintro e w' ⟨rfl, hw⟩
          rw [← hw]
          clear hw p0 p1
          obtain ⟨_, e1⟩ := cell2 HKX.out
          go_wp2_with fail
          refine HVR.out.mono ?_
          rintro e w4 ⟨rfl, hb4⟩
          have HB4 : Hid (Below w.heap.size w w4) := HBX.out.trans (hb4.mono HBX.out.size)
          clear hb4
          go_wp2
          go_ret2
          exact ofw_bad HBB.out HB4.out
        | true =>
          rw [hv] at HVR HND
          have HNN := Lib.hid (HND.out (by simp))
          clear hn hv HBD HND
          go_wp2_with fail
          rw [← HWX.out]
          clear HWX
          refine (HNR.out _).mono ?_
          rintro e w' ⟨rfl, hw⟩
          rw [← hw]
          clear hw p0 p1
          obtain ⟨_, e1⟩ := cell2 HKX.out
          go_wp2_with fail
          refine HVR.out.mono ?_
          rintro e w4 ⟨rfl, hb4⟩
          have HB4 : Hid (Below w.heap.size w w4) := HBX.out.trans (hb4.mono HBX.out.size)
          have HK4 : Hid (w4.heap[wr.heap.size]? = some (.cells #[.string x, .string y] 48 (0, 0))) := (hb4.block _ hlx).trans HKX.out
          have HO4 := Lib.hid (HOX.out.go hb4)
          have HLW : Hid (WX.heap.size ≤ w4.heap.size) := hb4.size
          clear hb4 HKX HOX HBX e1 HVR HNR
          have HLX := Lib.hid (Nat.lt_of_lt_of_le hlx (HLW.out))
          have hol : os.length ≤ 1000 := by have := HOL.out; omega
          go_wp2
          rcases HO4.out.2 with ⟨hv0, hn0⟩ | ⟨g1, cap1, cur1, hv1, hb1, hg1, hle1, hm1, hs1, ht1⟩
          · injection hv0 with ea eb ec
            subst ea
            subst ec
            have ho0 : os = [] := List.eq_nil_of_length_eq_zero hn0
            subst ho0
            have HJ0 : Hid (j = 0) := HOL.out.symm
            clear eb hn0 hol HO HO4 HOL
            go_loopw [5, 8] (fun tv kv wq => kv = .int .i64 0 ∧ tv = .bool tw ∧ Hid (Below w4.heap.size w4 wq)) (fun _ _ _ => 0)
            case atStart => exact ⟨by simp, rfl, Lib.hid (Below.refl _ _)⟩
            case round =>
              rename World => wq
              obtain ⟨rfl, rfl, HBQ⟩ := hrel
              go_wp2_with fail
              go_quiet (fail)
              have HBD : Hid (Below w4.heap.size w4 (wq.drewN nq)) := HBQ.out.trans ((bdrN wq nq).mono HBQ.out.size)
              generalize wq.drewN nq = wd at HBD ⊢
              have HKW : Hid (wd.heap[wr.heap.size]? = some (.cells #[.string x, .string y] 48 (0, 0))) := (HBD.out.block _ HLX.out).trans HK4.out
              obtain ⟨W1, hW1, hkw1, hbw1, how1⟩ : ∃ W1, W1 = wd.alloc (.cells #[] 48) ∧ Hid (W1.heap[wr.heap.size]? = some (.cells #[.string x, .string y] 48 (0, 0))) ∧ Hid (Below wd.heap.size wd W1) ∧ Hid (W1.ownsRow wd.heap.size 48 2 (.slice (some ⟨wd.heap.size, 0, none⟩) 0 0) 0 []) :=
                have hb := (Below.refl wd.heap.size wd).alloc (Nat.le_refl _) (.cells #[] 48)
                ⟨_, rfl, (hb.block _ (Nat.lt_of_lt_of_le HLX.out HBD.out.size)).trans HKW.out, hb, World.ownsRow_made wd #[] 0 (Nat.le_refl _) (by unfold maxLen; omega) rfl⟩
              have HW1 := Lib.hid hW1
              clear hW1
              obtain ⟨e0, e1⟩ := cell2 hkw1.out
              obtain ⟨W2, hW2, hk2, hb2⟩ : ∃ W2, W2 = W1.alloc (.cells #[.string x, .string y] 48) ∧ W2.heap[W1.heap.size]? = some (.cells #[.string x, .string y] 48 (0, 0)) ∧ Below W1.heap.size W1 W2 := ⟨_, rfl, heap_alloc_new W1 _, (Below.refl _ _).alloc (Nat.le_refl _) _⟩
              have HW2 := Lib.hid hW2
              have HB2 : Hid (Below wd.heap.size wd W2) := hbw1.out.trans (hb2.mono hbw1.out.size)
              have O1 : Hid (W2.ownsRow wd.heap.size 48 2 (.slice (some ⟨wd.heap.size, 0, none⟩) 0 0) 0 []) := World.ownsRow.kept how1.out (row := none) ⟨hb2.os, hb2.tape, hb2.output, hb2.size, fun k hk _ => hb2.block k hk⟩ (by simp [Value.ownBlock])
              have DC2 := Lib.hid (two_cell hk2)
              have M3 : Hid (0 + 1 ≤ maxLen) := by show _ ≤ _; unfold maxLen; omega
              have M5 : Hid (wd.heap.size ≤ W2.heap.size) := HB2.out.size
              clear hW2 hk2 hb2
              go_wp2_with (first | (at_builtin; rw [← HW2.out]; refine wpList_append_own _ rfl _ _ 22 rfl wd.heap.size 48 ir _ 2 32 Tryd.underlying22 hir hra hrb hrc rfl (by decide) _ _ _ rfl O1.out ⟨W1.heap.size, 0, none⟩ 1 1 [.string x, .string y] rfl rfl DC2.out two_ok M3.out (by decide) M5.out ?_) | (at_builtin; rw [← HW1.out]; refine wpList_append_own_none rfl _ _ 22 rfl wd.heap.size 48 ir 2 Tryd.underlying22 hir _ 0 [] rfl how1.out rfl ?_))
              intro v2 V2 hown2 hgrow2 _
              have HB3 : Hid (Below wd.heap.size wd V2) := HB2.out.grown hgrow2 HB2.out.size (fun q hq => by simp [Value.ownBlock] at hq; omega)
              have O2 := Lib.hid hown2
              clear hown2 hgrow2 e0 e1
              go_wp2_with (at_builtin; refine wpList_append_own_none rfl _ _ 22 rfl wd.heap.size 48 ir 2 Tryd.underlying22 hir _ _ _ rfl O2.out rfl ?_)
              have HB4Z : Hid (Below w.heap.size w V2) := HB4.out.trans ((HBD.out.trans (HB3.out.mono HBD.out.size)).mono HB4.out.size)
              have HOZ : Hid (OwF 48 w.heap.size v2 (insK [] (x, y) 0) V2) := own_mono O2.out (Nat.le_trans HB4.out.size HBD.out.size)
              have HI := Lib.hid (ins_ok (k := 0) (tv := tw) (Nat.le_refl _) HP.out HPT.out HA.out HTW.out (show (tw || twK [] (x, y) 0) = tw from Bool.or_false _) (fun i h _ => absurd h (Nat.not_lt_zero _)) (fun i h _ => absurd h (Nat.not_lt_zero _)))
              go_wp2
              go_roundw
              case rel => exact ⟨j + 1, insK [] (x, y) 0, by omega, by go_num, by rw [HI.out.2.2], Lib.hid HI.out.1, Lib.hid HI.out.2.1, HNN, HOZ, HB4Z⟩
              case measure => simp [intOf]; omega
          · injection hv1 with ea eb ec
            subst ea
            subst ec
            have hg1l : g1 < w4.heap.size := (Array.getElem?_eq_some_iff.1 hg1).1
            have HCP : Hid (os.length ≤ cpo) := hle1
            have HRD := Lib.hid (OwF.rd HO4.out)
            clear hb1 hg1 hm1 hs1 ht1 hle1
            go_loopw [5, 8] (fun tv kv wq => ∃ k : Nat, k ≤ os.length ∧ kv = .int .i64 k ∧ tv = .bool (tw || twK os (x, y) k) ∧ Hid (∀ i (h : i < os.length), k ≤ i → 0 ≤ cfN os[i] (x, y)) ∧ Hid (Below w4.heap.size w4 wq)) (fun _ kv _ => (intOf kv).toNat)
            case atStart => exact ⟨os.length, Nat.le_refl _, rfl, by rw [tw_end, Bool.or_false], Lib.hid (fun i h h2 => by omega), Lib.hid (Below.refl _ _)⟩
            case round =>
              rename World => wq
              obtain ⟨k, hk, rfl, rfl, HGE, HBQ⟩ := hrel
              generalize htv : (tw || twK os (x, y) k) = tv
              by_cases hk0 : 0 < k
              case' pos =>
                obtain ⟨m, hmk⟩ : ∃ m, k = m + 1 := ⟨k - 1, by omega⟩
                have hml : m < os.length := by omega
                have hkI : (0 : Int) < (k : Int) := by omega
                have hkw : IntKind.i64.wrap ((k : Int) - 1) = (m : Int) := (IntWalk.i64_in _ (by omega)).trans (by omega)
                have hks : (k : Int) - 1 = (m : Int) := by omega
                have hm0 : (0 : Int) ≤ (m : Int) := by omega
                have hmlI : (m : Int) < (os.length : Int) := by omega
                have HTS : Hid ((tw || twK os (x, y) m) = (tv || decide (os[m].1 = x))) := by show _ = _; rw [tw_step hml, ← hmk, ← htv, Bool.or_assoc]
                obtain ⟨g2, off2, eg, hg2, hat⟩ := rdf_at2 (HRD.out.go HBQ.out) (by omega)
                injection eg with eg
                injection eg with eg1 eg2 _
                subst eg1 eg2
                have p0 := (hat m hml).1
                rw [Nat.zero_add] at p0
                clear hat hg2
                obtain ⟨e0, _⟩ := cell2 ((HBQ.out.block _ HLX.out).trans HK4.out)
                by_cases hlt : cfN os[m] (x, y) < 0
                case' pos =>
                  have HLO : Hid (∀ i (h : i < os.length), i + 1 = k → cfN os[i] (x, y) < 0) := fun i h e => by
                    have e : i = m := by omega
                    subst e; exact hlt
                  obtain ⟨l1, l2⟩ := les_lt (x := os[m].1) (p := x) hlt
                  have HTV := Lib.hid htv
                  clear hlt hmk HTS htv
                  revert p0 l1 l2
                  generalize os[m].1 = a
                  intro p0 l1 l2
                  go_wp2_with fail
                  go_quiet (fail)
                  have HBD : Hid (Below w4.heap.size w4 (wq.drewN nq)) := HBQ.out.trans ((bdrN wq nq).mono HBQ.out.size)
                  generalize wq.drewN nq = wd at HBD ⊢
                  clear e0 p0 l1 l2 hkI hkw hks hm0 hmlI HBQ
                case' neg =>
                  have HGD : Hid (∀ i (h : i < os.length), m ≤ i → 0 ≤ cfN os[i] (x, y)) := fun i h hi => by
                    rcases Nat.lt_or_eq_of_le hi with g | g
                    · exact HGE.out i h (by omega)
                    · subst g; exact Int.not_lt.1 hlt
                  by_cases heq : os[m].1 = x
                  · obtain ⟨l1, l2⟩ := les_eq (x := os[m].1) (p := x) heq
                    rw [decide_eq_true heq, Bool.or_true] at HTS
                    clear hlt hmk htv
                    revert p0 l1 l2
                    generalize os[m].1 = a
                    intro p0 l1 l2
                    go_wp2_with fail
                    go_quiet (fail)
                    have HBD : Hid (Below w4.heap.size w4 (wq.drewN nq)) := HBQ.out.trans ((bdrN wq nq).mono HBQ.out.size)
                    have p1 := (bdrN wq nq).cell (p := ⟨g1, m * 2, none⟩) (by show g1 < _; have := HBQ.out.size; omega)
                    rw [p0] at p1
                    obtain ⟨e1, _⟩ := cell2 ((HBD.out.block _ HLX.out).trans HK4.out)
                    clear e0 p0 HBQ
                    generalize wq.drewN nq = wd at HBD p1 e1 ⊢
                    cases tv with
                    | true =>
                      go_wp2_with fail
                      go_quiet (fail)
                      have HBE : Hid (Below w4.heap.size w4 (wd.drewN nq)) := HBD.out.trans ((bdrN wd nq).mono HBD.out.size)
                      go_wp2
                      go_roundw
                      case rel => exact ⟨m, by omega, by go_num, by rw [HTS.out], HGD, HBE⟩
                      case measure => simp [intOf]; omega
                    | false =>
                      go_wp2_with fail
                      go_quiet (fail)
                      have HBE : Hid (Below w4.heap.size w4 (wd.drewN nq)) := HBD.out.trans ((bdrN wd nq).mono HBD.out.size)
                      go_wp2
                      go_roundw
                      case rel => exact ⟨m, by omega, by go_num, by rw [HTS.out], HGD, HBE⟩
                      case measure => simp [intOf]; omega
                  · obtain ⟨l1, l2⟩ := les_gt (x := os[m].1) (p := x) hlt heq
                    rw [decide_eq_false heq, Bool.or_false] at HTS
                    clear hlt heq hmk htv
                    revert p0 l1 l2
                    generalize os[m].1 = a
                    intro p0 l1 l2
                    go_wp2_with fail
                    go_quiet (fail)
                    have HBD : Hid (Below w4.heap.size w4 (wq.drewN nq)) := HBQ.out.trans ((bdrN wq nq).mono HBQ.out.size)
                    have p1 := (bdrN wq nq).cell (p := ⟨g1, m * 2, none⟩) (by show g1 < _; have := HBQ.out.size; omega)
                    rw [p0] at p1
                    obtain ⟨e1, _⟩ := cell2 ((HBD.out.block _ HLX.out).trans HK4.out)
                    clear e0 p0 HBQ
                    generalize wq.drewN nq = wd at HBD p1 e1 ⊢
                    cases tv with
                    | true =>
                      go_wp2_with fail
                      go_quiet (fail)
                      have HBE : Hid (Below w4.heap.size w4 (wd.drewN nq)) := HBD.out.trans ((bdrN wd nq).mono HBD.out.size)
                      go_wp2
                      go_roundw
                      case rel => exact ⟨m, by omega, by go_num, by rw [HTS.out], HGD, HBE⟩
                      case measure => simp [intOf]; omega
                    | false =>
                      go_wp2_with fail
                      go_quiet (fail)
                      have HBE : Hid (Below w4.heap.size w4 (wd.drewN nq)) := HBD.out.trans ((bdrN wd nq).mono HBD.out.size)
                      go_wp2
                      go_roundw
                      case rel => exact ⟨m, by omega, by go_num, by rw [HTS.out], HGD, HBE⟩
                      case measure => simp [intOf]; omega
              case' neg =>
                have hki : ¬ (0 : Int) < (k : Int) := by omega
                have HLO : Hid (∀ i (h : i < os.length), i + 1 = k → cfN os[i] (x, y) < 0) := fun i h e => absurd (by omega) hk0
                have HTV := Lib.hid htv
                clear htv
                go_wp2_with fail
                go_quiet (fail)
                have HBD : Hid (Below w4.heap.size w4 (wq.drewN nq)) := HBQ.out.trans ((bdrN wq nq).mono HBQ.out.size)
                generalize wq.drewN nq = wd at HBD ⊢
                clear hki HBQ
              all_goals
                have HKW : Hid (wd.heap[wr.heap.size]? = some (.cells #[.string x, .string y] 48 (0, 0))) := (HBD.out.block _ HLX.out).trans HK4.out
                have HRW := Lib.hid (HRD.out.go HBD.out)
                obtain ⟨W1, hW1, hkw1, hrw1, hbw1, how1⟩ : ∃ W1, W1 = wd.alloc (.cells #[] 48) ∧ Hid (W1.heap[wr.heap.size]? = some (.cells #[.string x, .string y] 48 (0, 0))) ∧ Hid (RdF (.slice (some ⟨g1, 0, none⟩) os.length cpo) os W1) ∧ Hid (Below wd.heap.size wd W1) ∧ Hid (W1.ownsRow wd.heap.size 48 2 (.slice (some ⟨wd.heap.size, 0, none⟩) 0 0) 0 []) :=
                  have hb := (Below.refl wd.heap.size wd).alloc (Nat.le_refl _) (.cells #[] 48)
                  ⟨_, rfl, (hb.block _ (Nat.lt_of_lt_of_le HLX.out HBD.out.size)).trans HKW.out, HRW.out.go hb, hb, World.ownsRow_made wd #[] 0 (Nat.le_refl _) (by unfold maxLen; omega) rfl⟩
                have HW1 := Lib.hid hW1
                have N1 : Hid ((fC (os.take k)).length = k * 2) := by show _ = _; rw [fC_len, List.length_take]; omega
                have N2 := Lib.hid (rd_first hrw1.out k)
                have N3 : Hid (0 + k ≤ maxLen) := by show _ ≤ _; unfold maxLen; omega
                have N4 : Hid ((0 + k) * 32 ≤ 140737488355328) := by show _ ≤ _; omega
                have N5 : Hid (wd.heap.size ≤ W1.heap.size) := hbw1.out.size
                have N6 : Hid (∀ u ∈ fC (os.take k), u.oneCell' = true) := fC_one _
                clear hW1
                have hkI : (0 : Int) ≤ (k : Int) := by omega
                have hkc : (k : Int) ≤ (cpo : Int) := by have := HCP.out; omega
                have hkl : (k : Int) ≤ (os.length : Int) := by omega
                go_wp2_with (at_builtin; rw [← HW1.out]; refine wpList_append_own _ rfl _ _ 22 rfl wd.heap.size 48 ir _ 2 32 Tryd.underlying22 hir hra hrb hrc rfl (by decide) _ _ _ rfl how1.out ⟨g1, 0, none⟩ k cpo (fC (os.take k)) rfl N1.out N2.out N6.out N3.out N4.out N5.out ?_)
                intro v1 V1 hown1 hgrow1 _
                have HB1 : Hid (Below wd.heap.size wd V1) := hbw1.out.grown hgrow1 hbw1.out.size (fun k hk => by simp [Value.ownBlock] at hk; omega)
                have HOWN1 : Hid (V1.ownsRow wd.heap.size 48 2 v1 k (fC (os.take k))) := by
                  exact hown1
                obtain ⟨ao1, cp1, hv1⟩ := own_lenF HOWN1.out
                subst hv1
                have HKV : Hid (V1.heap[wr.heap.size]? = some (.cells #[.string x, .string y] 48 (0, 0))) := (HB1.out.block _ (Nat.lt_of_lt_of_le HLX.out HBD.out.size)).trans HKW.out
                clear hown1 hgrow1
                obtain ⟨e0, e1⟩ := cell2 HKV.out
                obtain ⟨W2, hW2, hk2, hb2⟩ : ∃ W2, W2 = V1.alloc (.cells #[.string x, .string y] 48) ∧ W2.heap[V1.heap.size]? = some (.cells #[.string x, .string y] 48 (0, 0)) ∧ Below V1.heap.size V1 W2 := ⟨_, rfl, heap_alloc_new V1 _, (Below.refl _ _).alloc (Nat.le_refl _) _⟩
                have HW2 := Lib.hid hW2
                have HB2 : Hid (Below wd.heap.size wd W2) := HB1.out.trans (hb2.mono HB1.out.size)
                have O1 : Hid (W2.ownsRow wd.heap.size 48 2 (.slice ao1 k cp1) k (fC (os.take k))) := World.ownsRow.kept HOWN1.out (row := none) ⟨hb2.os, hb2.tape, hb2.output, hb2.size, fun k hk _ => hb2.block k hk⟩ (by cases hv : (Value.slice ao1 k cp1).ownBlock <;> simp)
                have DC2 := Lib.hid (two_cell hk2)
                have M3 : Hid (k + 1 ≤ maxLen) := by show _ ≤ _; unfold maxLen; omega
                have M4 : Hid ((k + 1) * 32 ≤ 140737488355328) := by show _ ≤ _; omega
                have M5 : Hid (wd.heap.size ≤ W2.heap.size) := HB2.out.size
                have LW : Hid (∀ q, (Value.slice ao1 k cp1).ownBlock = some q → wd.heap.size ≤ q) := fun q hq => (O1.out.lt q hq).1
                clear hW2 hk2 hb2
                go_wp2_with (at_builtin; rw [← HW2.out]; refine wpList_append_own _ rfl _ _ 22 rfl wd.heap.size 48 ir _ 2 32 Tryd.underlying22 hir hra hrb hrc rfl (by decide) _ _ _ rfl O1.out ⟨V1.heap.size, 0, none⟩ 1 1 [.string x, .string y] rfl rfl DC2.out two_ok M3.out M4.out M5.out ?_)
                intro v2 V2 hown2 hgrow2 _
                have HB3 : Hid (Below wd.heap.size wd V2) := HB2.out.grown hgrow2 HB2.out.size (fun q hq => LW.out q hq)
                have O2 := Lib.hid hown2
                obtain ⟨ao2, cp2, hv2⟩ := own_lenF hown2
                subst hv2
                clear hown2 hgrow2 e0 e1
                have T3 : Hid (k + 1 + (os.length - k) ≤ maxLen) := by show _ ≤ _; unfold maxLen; omega
                have T4 : Hid ((k + 1 + (os.length - k)) * 32 ≤ 140737488355328) := by show _ ≤ _; omega
                have T5 : Hid (wd.heap.size ≤ V2.heap.size) := HB3.out.size
                have T1 : Hid ((fC (os.drop k)).length = (os.length - k) * 2) := by show _ = _; rw [fC_len, List.length_drop]
                have T6 : Hid (∀ u ∈ fC (os.drop k), u.oneCell' = true) := fC_one _
                have LZ : Hid (∀ q, (Value.slice ao2 (k + 1) cp2).ownBlock = some q → wd.heap.size ≤ q) := fun q hq => (O2.out.lt q hq).1
                have HRZ := Lib.hid (HRW.out.go HB3.out)
                by_cases hck : k = cpo
                · subst hck
                  have hkl2 : k = os.length := by have := HCP.out; omega
                  have T2 : Hid (∀ (q : Nat) (u : Value), (fC (os.drop k))[q]? = some u → V2.cell? ((⟨g1, 0, none⟩ : Addr).add q) = some u) := fun q u hu => by
                    rw [List.drop_of_length_le (by omega)] at hu
                    simp [fC] at hu
                  clear hkl2
                  go_wp2_with (at_builtin; refine wpList_append_own _ rfl _ _ 22 rfl wd.heap.size 48 ir _ 2 32 Tryd.underlying22 hir hra hrb hrc rfl (by decide) _ _ _ rfl O2.out ⟨g1, 0, none⟩ (os.length - k) 0 (fC (os.drop k)) rfl T1.out T2.out T6.out T3.out T4.out T5.out ?_)
                  intro v3 V3 hown3 hgrow3 _
                  have HB4Z : Hid (Below w.heap.size w V3) := HB4.out.trans ((HBD.out.trans ((HB3.out.grown hgrow3 HB3.out.size (fun q hq => LZ.out q hq)).mono HBD.out.size)).mono HB4.out.size)
                  have HOZ : Hid (OwF 48 w.heap.size v3 (insK os (x, y) k) V3) := by
                    show OwF _ _ _ _ _
                    unfold OwF
                    rw [← fC_ins, ins_len _ _ hk]
                    have e : k + 1 + (os.length - k) = os.length + 1 := by omega
                    have h := own_mono hown3 (Nat.le_trans HB4.out.size HBD.out.size)
                    rw [e] at h
                    simpa using h
                  have HI := Lib.hid (ins_ok hk HP.out HPT.out HA.out HTW.out HTV.out HLO.out HGE.out)
                  clear hown3 hgrow3
                  go_wp2
                  go_roundw
                  case rel => exact ⟨j + 1, insK os (x, y) k, by omega, by go_num, by rw [HI.out.2.2], Lib.hid HI.out.1, Lib.hid HI.out.2.1, HNN, HOZ, HB4Z⟩
                  case measure => simp [intOf]; omega
                · have hck' : ¬ (k : Int) = (cpo : Int) := by omega
                  have T2 := Lib.hid (rd_last HRZ.out hk)
                  go_wp2_with (at_builtin; refine wpList_append_own _ rfl _ _ 22 rfl wd.heap.size 48 ir _ 2 32 Tryd.underlying22 hir hra hrb hrc rfl (by decide) _ _ _ rfl O2.out ⟨g1, k * 2, none⟩ (os.length - k) (cpo - k) (fC (os.drop k)) rfl T1.out T2.out T6.out T3.out T4.out T5.out ?_)
                  intro v3 V3 hown3 hgrow3 _
                  have HB4Z : Hid (Below w.heap.size w V3) := HB4.out.trans ((HBD.out.trans ((HB3.out.grown hgrow3 HB3.out.size (fun q hq => LZ.out q hq)).mono HBD.out.size)).mono HB4.out.size)
                  have HOZ : Hid (OwF 48 w.heap.size v3 (insK os (x, y) k) V3) := by
                    show OwF _ _ _ _ _
                    unfold OwF
                    rw [← fC_ins, ins_len _ _ hk]
                    have e : k + 1 + (os.length - k) = os.length + 1 := by omega
                    have h := own_mono hown3 (Nat.le_trans HB4.out.size HBD.out.size)
                    rw [e] at h
                    simpa using h
                  have HI := Lib.hid (ins_ok hk HP.out HPT.out HA.out HTW.out HTV.out HLO.out HGE.out)
                  clear hown3 hgrow3
                  go_wp2
                  go_roundw
                  case rel => exact ⟨j + 1, insK os (x, y) k, by omega, by go_num, by rw [HI.out.2.2], Lib.hid HI.out.1, Lib.hid HI.out.2.1, HNN, HOZ, HB4Z⟩
                  case measure => simp [intOf]; omega
    · have hj2 : j = fs.length := by omega
      have HNB : Hid (fs.any badB = false) := any_no (fun k hk => HN.out k hk (by omega))
      have HPF : Hid (os.Perm fs) := by
        have h := HP.out
        rw [hj2, List.take_length] at h
        exact h
      have hjl : ¬ (j : Int) < (fs.length : Int) := by omega
      clear hj2
      by_cases ho : Onc os
      · have h0 : tw = false := by rw [← HTW.out, decide_eq_true ho]; rfl
        have HO2 : Hid (Onc fs) := (onc_iff HPF.out).1 ho
        clear ho HTW
        subst h0
        go_wp2
        go_ret2
        exact ofw_ok HNB.out HO2.out HPF.out HA.out HO.out HB.out
      · have h0 : tw = true := by rw [← HTW.out, decide_eq_false ho]; rfl
        have HO2 : Hid (¬ Onc fs) := fun h => ho ((onc_iff HPF.out).2 h)
        clear ho HTW
        subst h0
        go_wp2
        go_ret2
        exact ofw_dup HNB.out HO2.out HB.out
end Go.Proofs.YtjgbfpkjkglfnaaDoor.Lb
namespace Go.Proofs.YtjgbfpkjkglfnaaDoor.Lb
open Go.RowKit Ch Jt
set_option linter.unusedSimpArgs false
set_option linter.unusedVariables false

set_option maxRecDepth 100000 in
set_option maxHeartbeats 4000000 in
theorem TextR_c (ao : Option Addr) (cap : Nat) (gs : List FB) (w : World) (hR : RdF (.slice ao gs.length cap) gs w) (hm : gs.length ≤ 100) (hs : ∀ x ∈ gs, shortF x) :
    Calls Tryd.prog 13 #[.slice ao gs.length cap] w fun e w' => e = .returned (.string (Jt.mkS (txtL gs))) ∧ Below w.heap.size w w' := by
  have HR := Lib.hid hR
  have HS := Lib.hid hs
  clear hR hs
  go_enter Tryd.func13, Tryd.ntmps13
  go_wp2
  go_loopw [3, 8] (fun sv v wr => ∃ (k : Nat) (s : ByteArray), k ≤ gs.length ∧ v = .int .i64 k ∧ sv = .string s ∧ Hid (s = Jt.mkS (123 :: prsL (gs.take k))) ∧ Hid (Below w.heap.size w wr)) (fun _ v _ => gs.length - (intOf v).toNat)
  case atStart => exact ⟨0, _, by omega, rfl, rfl, Lib.hid rfl, Lib.hid (Below.refl _ _)⟩
  case round =>
    obtain ⟨k, s, hk, rfl, rfl, HSS, HB⟩ := hrel
    have hln := take_short HS.out k
    have hsz : s.size ≤ 220200 := by
      rw [HSS.out, Jt.size_mkS]
      simp only [List.length_cons]; omega
    by_cases hlt : k < gs.length
    · obtain ⟨g1, o1, rfl, hg1, hat1⟩ := rdf_at2 (HR.out.go HB.out) (by omega)
      obtain ⟨p0, p1⟩ := hat1 k hlt
      have hsk := HS.out _ (List.getElem_mem hlt)
      have HST := Lib.hid (prs_step hlt)
      have hk0 : (0 : Int) ≤ (k : Int) := by omega
      have hkl : (k : Int) < (gs.length : Int) := by omega
      obtain ⟨⟨x, y⟩, hxy⟩ : ∃ f : FB, gs[k] = f := ⟨_, rfl⟩
      rw [hxy] at p0 p1 hsk HST
      simp only at p0 p1
      have hx : x.size ≤ 300 := hsk.1
      have hy : y.size ≤ 300 := hsk.2
      have HQ : Hid (∀ W : World, Calls Tryd.prog 34 #[.string y] W fun e w' => e = .returned (.string (Jt.mkS (quoL y.data.toList))) ∧ w' = W) := fun W => (quoteR_c y W hy).mono fun _ _ h => ⟨h.1, h.2.symm⟩
      have hql := quL_len y.data.toList
      have hys := Lib.size_eq y
      have HOD := Lib.hid (one_data x y)
      have hqz : (Jt.mkS (quoL y.data.toList)).size ≤ 1802 := by rw [Jt.size_mkS]; unfold quoL; simp only [List.length_cons, List.length_append, List.length_nil]; omega
      clear hat1 hsk hxy hql hys
      revert HQ HOD hqz
      generalize Jt.mkS (quoL y.data.toList) = qv
      intro HQ HOD hqz
      have hgn : g1 ≠ wr.heap.size := by omega
      obtain ⟨WP, hWP, hkP, hbP⟩ : ∃ WP, WP = wr.alloc (.cells #[.string x, .string y] 48) ∧ WP.heap[wr.heap.size]? = some (.cells #[.string x, .string y] 48 (0, 0)) ∧ Below wr.heap.size wr WP := ⟨_, rfl, heap_alloc_new wr _, (Below.refl _ _).alloc (Nat.le_refl _) _⟩
      have HWP := Lib.hid hWP
      have HPV0 := Lib.hid hkP
      have HBP : Hid (Below w.heap.size w WP) := HB.out.trans (hbP.mono HB.out.size)
      clear hWP hkP hbP
      by_cases h0 : k = 0
      · have hk1 : ¬ (0 : Int) < (k : Int) := by omega
        have HSN : Hid (s ++ x ++ ⟨#[61]⟩ ++ qv = Jt.mkS (123 :: prsL (gs.take (k + 1)))) := by
          show _ = _
          rw [HST.out, if_pos h0]
          refine Jt.mkS_of ?_
          have h := HOD.out
          simp only [ByteArray.data_append, Array.toList_append] at h ⊢
          rw [List.append_assoc, List.append_assoc, ← List.append_assoc x.data.toList, h, HSS.out, Jt.data_mkS]
          simp
        clear HST h0
        go_wp2_with fail
        rw [← HWP.out]
        clear HWP p0 p1
        obtain ⟨e0, e1⟩ := cell2 HPV0.out
        go_quiet ((go_at_call 34; exact Calls.quiet_of_same (HQ.out _)))
        have HBD : Hid (Below w.heap.size w (WP.drewN nq)) := HBP.out.trans ((bdrN WP nq).mono HBP.out.size)
        go_wp2
        go_roundw
        case rel => exact ⟨k + 1, _, by omega, by go_num, rfl, HSN, HBD⟩
        case measure => simp [intOf]; omega
      · have hk1 : (0 : Int) < (k : Int) := by omega
        have HSN : Hid (s ++ ⟨#[44]⟩ ++ x ++ ⟨#[61]⟩ ++ qv = Jt.mkS (123 :: prsL (gs.take (k + 1)))) := by
          show _ = _
          rw [HST.out, if_neg h0]
          refine Jt.mkS_of ?_
          have h := HOD.out
          simp only [ByteArray.data_append, Array.toList_append] at h ⊢
          rw [List.append_assoc, List.append_assoc, ← List.append_assoc x.data.toList, h, HSS.out, Jt.data_mkS]
          simp
        have hs4 : (s ++ (⟨#[44]⟩ : ByteArray)).size ≤ 220201 := by rw [ByteArray.size_append]; show _ + 1 ≤ _; omega
        clear HST
        go_wp2_with fail
        rw [← HWP.out]
        clear HWP p0 p1
        obtain ⟨e0, e1⟩ := cell2 HPV0.out
        go_quiet ((go_at_call 34; exact Calls.quiet_of_same (HQ.out _)))
        have HBD : Hid (Below w.heap.size w (WP.drewN nq)) := HBP.out.trans ((bdrN WP nq).mono HBP.out.size)
        go_wp2
        go_roundw
        case rel => exact ⟨k + 1, _, by omega, by go_num, rfl, HSN, HBD⟩
        case measure => simp [intOf]; omega
    · have HTX : Hid (s ++ ⟨#[125]⟩ = Jt.mkS (txtL gs)) := by
        show _ = _
        refine Jt.mkS_of ?_
        rw [HSS.out, List.take_of_length_le (by omega)]
        simp only [ByteArray.data_append, Array.toList_append, Jt.data_mkS]
        unfold txtL
        rfl
      go_wp2
      go_ret
      exact ⟨congrArg (fun x => Ending.returned (.string x)) HTX.out, HB.out⟩
set_option maxRecDepth 100000 in
set_option maxHeartbeats 4000000 in
theorem HashR_c (ao : Option Addr) (cap : Nat) (gs : List FB) (w : World) (hR : RdF (.slice ao gs.length cap) gs w) (hm : gs.length ≤ 100) (hs : ∀ x ∈ gs, shortF x) :
    Calls Tryd.prog 15 #[.slice ao gs.length cap] w fun e w' => e = .returned (.int .u64 (hshL (txtL gs))) ∧ Below w.heap.size w w' := by
  have HSC := Lib.hid (TextR_c ao cap gs w hR hm hs)
  have htl : (Jt.mkS (txtL gs)).size ≤ 220102 := by
    have := prs_len hs
    rw [Jt.size_mkS]; unfold txtL
    simp only [List.length_cons, List.length_append, List.length_nil]; omega
  clear hR hs
  have HSD : Hid ((Jt.mkS (txtL gs)).data.toList = txtL gs) := Jt.data_mkS _
  revert HSC htl HSD
  generalize txtL gs = tx
  generalize Jt.mkS tx = s
  intro HSC htl HSD
  go_enter Tryd.func15, Tryd.ntmps15
  go_wp2_with fail
  refine HSC.out.mono ?_
  rintro e w2 ⟨rfl, hb2⟩
  have HB2 := Lib.hid hb2
  clear hb2
  go_wp2
  go_loopw [4, 5] (fun h v wr => ∃ (k : Nat) (z : Int), k ≤ s.size ∧ v = .int .i64 k ∧ h = .int .u64 z ∧ Hid (z = hshL (s.data.toList.take k)) ∧ Hid (Below w.heap.size w wr)) (fun _ v _ => s.size - (intOf v).toNat)
  case atStart => exact ⟨0, _, by omega, rfl, rfl, Lib.hid rfl, HB2⟩
  case round =>
    clear HB2
    obtain ⟨k, z, hk, rfl, rfl, HZ, HB⟩ := hrel
    by_cases hlt : k < s.size
    · have hk0 : (0 : Int) ≤ (k : Int) := by omega
      have hkl : (k : Int) < (s.size : Int) := by omega
      have HSN : Hid (hstp z s[k] = hshL (s.data.toList.take (k + 1))) := by show _ = _; rw [hsh_snoc hlt, HZ.out]
      revert HSN
      generalize hc : s[k] = c
      intro HSN
      go_wp2
      go_roundw
      case rel => exact ⟨k + 1, _, by omega, by go_num, rfl, HSN, HB⟩
      case measure => simp [intOf]; omega
    · have HZE : Hid (z = hshL tx) := by show _ = _; rw [HZ.out, List.take_of_length_le (by rw [← Lib.size_eq]; omega), HSD.out]
      go_wp2
      go_ret
      exact ⟨congrArg (fun x => Ending.returned (.int .u64 x)) HZE.out, HB.out⟩
end Go.Proofs.YtjgbfpkjkglfnaaDoor.Lb
namespace Go.Proofs.YtjgbfpkjkglfnaaDoor.Lb
open Go.RowKit Ch Jt
set_option linter.unusedSimpArgs false
set_option linter.unusedVariables false

set_option maxRecDepth 100000 in
set_option maxHeartbeats 2000000 in
theorem all_inW (s : ByteArray) (w : World) (hs : s.size ≤ 9223372036854775807) : Calls Tryd.prog 37 #[.string s, .func (.func 38) #[] #[]] w fun e w' => e = .returned (.bool (inBL s.data.toList)) ∧ w = w' := by
  have hsl := Lib.hid (Lib.size_eq s)
  have hev := ev_in
  go_enter Tryd.func37, Tryd.ntmps37
  go_wp2
  go_loop [10] (fun i => ∃ k : Nat, k ≤ s.size ∧ i = .int .i64 k ∧ inBL (s.data.toList.take k) = true) (fun i => s.size - (intOf i).toNat)
  case atStart => exact ⟨0, by omega, rfl, rfl⟩
  case round =>
    obtain ⟨k, hk, rfl, hal⟩ := hrel
    have HA := Lib.hid hal
    clear hal
    by_cases hlt : k < s.size
    · have h0 : 0 ≤ ((s[k].toNat : Nat) : Int) := by omega
      have h1 : ((s[k].toNat : Nat) : Int) ≤ 255 := by have := s[k].toNat_lt; omega
      cases hb : inB (s[k].toNat : Int) with
      | true =>
        have HB := Lib.hid hb
        go_wp2_with (go_at_call 38; refine (in_c _ _).mono ?_; rintro e w' ⟨rfl, rfl⟩)
        go_round
        case rel => exact ⟨k + 1, by omega, by go_num, by rw [take_snoc hlt]; have h := HA.out; unfold inBL at *; rw [List.all_append, h]; simp [HB.out]⟩
        case measure => simp [intOf]; omega
      | false =>
        have HB := Lib.hid hb
        go_wp2_with (go_at_call 38; refine (in_c _ _).mono ?_; rintro e w' ⟨rfl, rfl⟩)
        go_ret
        exact ⟨Ch.ret_bool (all_no (p := fun b => inB (b.toNat : Int)) hlt HB.out).symm, rfl⟩
    · go_wp2
      go_ret
      exact ⟨Ch.ret_bool (by have h := HA.out; rw [List.take_of_length_le (by rw [← hsl.out]; omega)] at h; rw [h]), rfl⟩
set_option maxRecDepth 100000 in
set_option maxHeartbeats 2000000 in
theorem NameW_c (s : ByteArray) (w : World) (hs : s.size ≤ 9223372036854775807) : Calls Tryd.prog 18 #[.string s] w fun e w' => e = .returned (.bool (namB s.data.toList)) ∧ w = w' := by
  by_cases h0 : 0 < s.size
  · obtain ⟨hn, he, _⟩ := nam_ne h0
    rw [hn]
    clear hn
    have HA := Lib.hid (fun W => all_inW s W hs)
    have hz1 : (0 : Int) < (s.size : Int) := by omega
    generalize inBL s.data.toList = b at HA ⊢
    cases hd : digB (s[0].toNat : Int) with
    | true =>
      have HD := Lib.hid (fun W => dig_c (s[0].toNat : Int) W)
      rw [hd] at HD
      clear hd
      show Calls _ _ _ _ fun e w' => e = .returned (.bool false) ∧ _
      go_enter Tryd.func18, Tryd.ntmps18
      go_wp2_with (go_at_call 36; refine (HD.out _).mono ?_; rintro e w' ⟨rfl, hw⟩; rw [← hw]; clear hw)
      go_ret
      exact ⟨rfl, rfl⟩
    | false =>
      have HD := Lib.hid (fun W => dig_c (s[0].toNat : Int) W)
      rw [hd] at HD
      clear hd
      show Calls _ _ _ _ fun e w' => e = .returned (.bool b) ∧ _
      go_enter Tryd.func18, Tryd.ntmps18
      go_wp2_with (first
        | (go_at_call 36; refine (HD.out _).mono ?_; rintro e w' ⟨rfl, hw⟩; rw [← hw]; clear hw)
        | (go_at_call 37; refine (HA.out _).mono ?_; rintro e w' ⟨rfl, hw⟩; rw [← hw]; clear hw))
      go_ret
      exact ⟨rfl, rfl⟩
  · obtain rfl := emp h0
    show Calls _ _ _ _ fun e w' => e = .returned (.bool false) ∧ _
    clear h0 hs
    go_enter Tryd.func18, Tryd.ntmps18
    go_wp2
    go_ret
    exact ⟨rfl, rfl⟩
end Go.Proofs.YtjgbfpkjkglfnaaDoor.Lb
namespace Go.Proofs.YtjgbfpkjkglfnaaDoor.Lb
open Go.RowKit Ch Jt Go.ChangeShapes Go.WideShapes
set_option linter.unusedSimpArgs false
set_option linter.unusedVariables false

def LS (w : World) (q : Nat) (a1 ax : Option Addr) (c1 cx : Nat) (gs : List FB) (V : World) : Prop := Below w.heap.size w V ∧ V.heap[q]? = some (.cells #[.slice a1 gs.length c1] 27 (0, 0)) ∧ RdF (.slice a1 gs.length c1) gs V ∧ RdF (.slice ax gs.length cx) gs V
theorem LS.b {w : World} {q : Nat} {a1 ax : Option Addr} {c1 cx : Nat} {gs : List FB} {V : World} (h : LS w q a1 ax c1 cx gs V) : Below w.heap.size w V := h.1
theorem LS.r {w : World} {q : Nat} {a1 ax : Option Addr} {c1 cx : Nat} {gs : List FB} {V : World} (h : LS w q a1 ax c1 cx gs V) : RdF (.slice a1 gs.length c1) gs V := h.2.2.1
theorem LS.x {w : World} {q : Nat} {a1 ax : Option Addr} {c1 cx : Nat} {gs : List FB} {V : World} (h : LS w q a1 ax c1 cx gs V) : RdF (.slice ax gs.length cx) gs V := h.2.2.2
theorem LS.c {w : World} {q : Nat} {a1 ax : Option Addr} {c1 cx : Nat} {gs : List FB} {V : World} (h : LS w q a1 ax c1 cx gs V) : V.cell? ⟨q, 0, none⟩ = some (.slice a1 gs.length c1) := cell_of_row _ _ 0 _ _ _ h.2.1
theorem LS.go {w : World} {q : Nat} {a1 ax : Option Addr} {c1 cx : Nat} {gs : List FB} {V V2 : World} (h : LS w q a1 ax c1 cx gs V) (hb : Below V.heap.size V V2) : LS w q a1 ax c1 cx gs V2 :=
  ⟨h.1.trans (hb.mono h.1.size), (hb.block _ (Array.getElem?_eq_some_iff.1 h.2.1).1).trans h.2.1, h.2.2.1.go hb, h.2.2.2.go hb⟩
set_option maxRecDepth 100000 in
set_option maxHeartbeats 16000000 in
theorem walkF (a : Option Addr) (len cap : Nat) (ts : List FB) (nm : ByteArray) (w : World) (hP : IsPrs w a len ts) (hn : nm.size ≤ maxLen) (hE : Ev w) :
    Calls Tryd.prog 3 #[.slice a len cap, .string nm] w fun e w' => e = .returned (.bool true) ∧ Below w.heap.size w w' := by
  obtain rfl := hP.1
  unfold maxLen at hn
  have HPC := Lib.hid (Pairs_c a cap ts w hP)
  have HE := Lib.hid hE
  clear hP hE
  have hf6 := prK_len ts (Nat.le_refl 6)
  have HSF : Hid (∀ x ∈ prK ts 6, x.1.size ≤ 20 ∧ x.2.size ≤ 30) := fun x hx => prK_short hx
  revert HPC hf6 HSF
  generalize prK ts 6 = fs
  intro HPC hf6 HSF
  go_enter Tryd.func3, Tryd.ntmps3
  go_wp2_with fail
  refine HPC.out.mono ?_
  rintro e w1 ⟨vo, vw, rfl, ho, ho2, hb1⟩
  have HB1 := Lib.hid hb1
  have HSS : Hid (∀ x ∈ fs, smallF x) := fun x hx => by have := HSF.out x hx; exact ⟨by omega, by omega⟩
  obtain ⟨ao, cpo, hv⟩ := own_lenF ho
  subst hv
  obtain ⟨aw, cpw, hv⟩ := own_lenF ho2
  subst hv
  have HOF1 := Lib.hid (Of_c (.slice ao fs.length cpo) fs w1 (HE.out.go HB1.out) ho.rd (by omega) HSS.out)
  have HRW1 := Lib.hid ho2.rd
  clear hb1 ho ho2 HPC
  go_wp2_with fail
  (with_reducible refine HOF1.out.mono ?_)
  intro e w3 h3
  obtain ⟨a1, c1, hpl, rfl, hr1, hb3⟩ := of_uni h3
  have HB3 : Hid (Below w.heap.size w w3) := HB1.out.trans (hb3.mono HB1.out.size)
  obtain ⟨W3, hW3, hk3, hbw3⟩ : ∃ W3, W3 = w3.alloc (.cells #[.slice a1 (ofA fs).length c1] 27) ∧ W3.heap[w3.heap.size]? = some (.cells #[.slice a1 (ofA fs).length c1] 27 (0, 0)) ∧ Below w3.heap.size w3 W3 := ⟨_, rfl, heap_alloc_new w3 _, (Below.refl _ _).alloc (Nat.le_refl _) _⟩
  have hl3 : w3.heap.size < W3.heap.size := (Array.getElem?_eq_some_iff.1 hk3).1
  have HBW3 : Hid (Below w.heap.size w W3) := HB3.out.trans (hbw3.mono HB3.out.size)
  have HR3 := Lib.hid (hr1.go hbw3)
  have HW3 := Lib.hid hW3
  have HK3 := Lib.hid hk3
  have hgl := ofA_len fs
  have HPL := Lib.hid hpl
  have HOR := Lib.hid (OfR_c aw cpw fs W3 ((HRW1.out.go hb3).go hbw3) (by omega) HSS.out)
  clear h3 hr1 hb3 HOF1 hW3 hk3 hbw3 HB3 HB1 hpl HRW1
  go_wp2_with fail
  rw [← HW3.out]
  clear HW3
  (with_reducible refine HOR.out.mono ?_)
  rintro e w4 ⟨vx, rfl, hox, hb4⟩
  obtain ⟨ax, cx, hv⟩ := own_lenF hox
  subst hv
  have HB4 : Hid (Below w.heap.size w w4) := HBW3.out.trans (hb4.mono HBW3.out.size)
  have HK4 : Hid (w4.heap[w3.heap.size]? = some (.cells #[.slice a1 (ofA fs).length c1] 27 (0, 0))) := (hb4.block _ hl3).trans HK3.out
  have HR4 := Lib.hid (HR3.out.go hb4)
  have HX4 := Lib.hid hox.rd
  have HGS : Hid (∀ x ∈ ofA fs, shortF x) := fun x hx => by have := HSF.out x (ofA_mem hx).1; exact ⟨by omega, by omega⟩
  have HGV : Hid (∀ x ∈ ofA fs, vldB x.2.data.toList = true) := fun x hx => (bad_vld (ofA_mem hx).2).1
  have HAO : Hid (Asc (ofA fs) ∧ Onc (ofA fs)) := by
    rcases ofz_cases fs with ⟨_, h1, h2⟩ | ⟨_, h⟩
    · exact ⟨h1, h2⟩
    · show Asc _ ∧ Onc _
      rw [h]
      exact ⟨List.Pairwise.nil, List.nodup_nil⟩
  have HL4 : Hid (LS w w3.heap.size a1 ax c1 cx (ofA fs) w4) := ⟨HB4.out, HK4.out, HR4.out, HX4.out⟩
  clear hox hb4 HOR HK3 HR3 HBW3 hl3 HK4 HR4 HX4 HB4
  revert HL4 hgl HGS HGV HAO
  generalize ofA fs = gs
  generalize ofZ fs = z
  intro hgl HGS HGV HAO HL4
  have HC1 := Lib.hid (fun W h1 => Plain_c a1 c1 gs W h1 HPL.out (by omega))
  have HC2 := Lib.hid (fun a5 c5 W h1 h2 => RSame_c a5 ax c5 cx gs W h1 h2 (by omega))
  have HC3 := Lib.hid (fun W => Len_c a1 gs.length c1 W (by omega))
  have HC4 := Lib.hid (fun W h0 h1 => String_c a1 c1 gs W h0 h1 (by omega) HGS.out HGV.out)
  have HC5 := Lib.hid (fun W h1 => TextR_c ax cx gs W h1 (by omega) HGS.out)
  have HC6 := Lib.hid (fun W h0 h1 => Hash_c a1 c1 gs W h0 h1 (by omega) HGS.out HGV.out)
  have HC7 := Lib.hid (fun W h1 => HashR_c ax cx gs W h1 (by omega) HGS.out)
  have HC8 := Lib.hid (fun W h1 => Get_c a1 c1 gs nm W h1 HAO.out.1 HAO.out.2 (by omega))
  have HC9 := Lib.hid (fun W h1 => GetR_c ax cx gs nm W h1 HAO.out.2 (by omega))
  have HC10 := Lib.hid (fun W => NameW_c nm W hn)
  have HC11 := Lib.hid (fun W => NameR_c nm W hn)
  generalize hshL (txtL gs) = hh at HC6 HC7
  generalize Jt.mkS (txtL gs) = tx at HC4 HC5
  generalize getL gs nm = gv at HC8 HC9
  generalize namB nm.data.toList = nb at HC10 HC11
  clear HGS HGV HAO HPL hf6
  have hzz : (z == z) = true := by simp
  have d := HL4.out.c
  go_wp2_with fail
  refine (HC1.out w4 HL4.out.r).mono ?_
  rintro e w5 ⟨v5, rfl, ho5, hb5⟩
  obtain ⟨a5, c5, hv⟩ := own_lenF ho5
  subst hv
  have HL5 := Lib.hid (HL4.out.go hb5)
  have HS5 := Lib.hid (HC2.out a5 c5 w5 ho5.rd HL5.out.x)
  clear d hb5 ho5 HC1 HC2 HL4
  have d := HL5.out.c
  go_wp2_with fail
  refine HS5.out.mono ?_
  rintro e w6 ⟨rfl, hb⟩
  have HL6 := Lib.hid (HL5.out.go hb)
  clear d hb HS5 HL5
  have d := HL6.out.c
  go_wp2_with fail
  refine (HC3.out w6).mono ?_
  rintro e w7 ⟨rfl, hb⟩
  have HL7 := Lib.hid (HL6.out.go hb)
  clear d hb HC3 HL6
  have d := HL7.out.c
  go_wp2_with fail
  refine (HC4.out w7 (HE.out.go HL7.out.b) HL7.out.r).mono ?_
  rintro e w8 ⟨rfl, hb⟩
  have HL8 := Lib.hid (HL7.out.go hb)
  clear d hb HC4 HL7
  have d := HL8.out.c
  go_wp2_with fail
  refine (HC5.out w8 HL8.out.x).mono ?_
  rintro e w9 ⟨rfl, hb⟩
  have HL9 := Lib.hid (HL8.out.go hb)
  clear d hb HC5 HL8
  have d := HL9.out.c
  go_wp2_with fail
  refine (HC6.out w9 (HE.out.go HL9.out.b) HL9.out.r).mono ?_
  rintro e w10 ⟨rfl, hb⟩
  have HL10 := Lib.hid (HL9.out.go hb)
  clear d hb HC6 HL9
  have d := HL10.out.c
  go_wp2_with fail
  refine (HC7.out w10 HL10.out.x).mono ?_
  rintro e w11 ⟨rfl, hb⟩
  have HL11 := Lib.hid (HL10.out.go hb)
  clear d hb HC7 HL10
  have d := HL11.out.c
  go_wp2_with fail
  refine (HC8.out w11 HL11.out.r).mono ?_
  rintro e w12 ⟨rfl, hb⟩
  have HL12 := Lib.hid (HL11.out.go hb)
  clear d hb HC8 HL11
  have d := HL12.out.c
  go_wp2_with fail
  refine (HC9.out w12 HL12.out.x).mono ?_
  rintro e w13 ⟨rfl, hb⟩
  have HL13 := Lib.hid (HL12.out.go hb)
  clear d hb HC9 HL12
  go_wp2_with fail
  refine (HC10.out w13).mono ?_
  rintro e w' ⟨rfl, hw⟩
  rw [← hw]
  clear hw
  go_wp2_with fail
  refine (HC11.out w13).mono ?_
  rintro e w' ⟨rfl, hw⟩
  rw [← hw]
  clear hw
  have HAW := Lib.hid (awake_c w13 (HE.out.go HL13.out.b))
  go_wp2_with fail
  refine HAW.out.mono ?_
  rintro e w14 ⟨rfl, hb⟩
  have HL14 := Lib.hid (HL13.out.go hb)
  clear hb HAW
  go_wp2
  go_ret
  exact ⟨rfl, HL14.out.b⟩
end Go.Proofs.YtjgbfpkjkglfnaaDoor.Lb

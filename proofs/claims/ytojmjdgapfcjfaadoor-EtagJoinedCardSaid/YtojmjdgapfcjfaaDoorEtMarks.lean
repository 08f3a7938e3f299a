/- The contract of package etag's marks: for every text of at most a thousand bytes. -/
import Derived.Test.YtojmjdgapfcjfaaDoorEtOne
namespace Go.Proofs.YtojmjdgapfcjfaaDoor.Et
open Go.RowKit Ch
set_option linter.unusedSimpArgs false
set_option linter.unusedVariables false

def tgC (ts : List TagL) : List Value := ts.flatMap fun x => [.bool x.1, .string (mkS x.2)]
theorem tgC_snoc (ts : List TagL) (x : TagL) : tgC (ts ++ [x]) = tgC ts ++ [.bool x.1, .string (mkS x.2)] := by unfold tgC; rw [List.flatMap_append, List.flatMap_singleton]
/-- a slice of marks of the call's own -/
def OwT (T : TypeId) (B : Nat) (v : Value) (ts : List TagL) (w : World) : Prop := w.ownsRow B T 2 v ts.length (tgC ts)
theorem OwT.go {T : TypeId} {B : Nat} {v : Value} {ts : List TagL} {w w' : World} (h : OwT T B v ts w) (hb : Below w.heap.size w w') : OwT T B v ts w' :=
  World.ownsRow.kept h (row := none) ⟨hb.os, hb.tape, hb.output, hb.size, fun k hk _ => hb.block k hk⟩ (by cases hv : v.ownBlock <;> simp)
theorem own_len {T : TypeId} {B k n : Nat} {v : Value} {xs : List Value} {w : World} (h : w.ownsRow B T k v n xs) : ∃ ao cap, v = .slice ao n cap := by
  rcases h.2 with ⟨rfl, h0⟩ | ⟨g, cap, cur, rfl, _⟩
  · exact ⟨_, 0, by rw [h0]⟩
  · exact ⟨_, _, rfl⟩
theorem infoT : (Tryd.prog.info? 28).map (fun i => (i.zero, i.size, i.bytes)) = some (some (.agg #[.bool false, .string ⟨#[]⟩]), 2, 24) := by kernel_rfl
def okM (q : Option (List TagL)) : Bool := match q with | some (_ :: _) => true | _ => false
def MkQ (T : TypeId) (q : Option (List TagL)) (w : World) (e : Ending) (w' : World) : Prop := ∃ ao n c, e = .returned (.tuple #[.slice ao n c, .bool (okM q)]) ∧ (∀ acc, q = some acc → acc ≠ [] → OwT T w.heap.size (.slice ao n c) acc w') ∧ Below w.heap.size w w'
theorem mkq_no {T : TypeId} {q : Option (List TagL)} {w : World} {e : Ending} {w' : World} (h : q = none) (he : e = .returned (.tuple #[.slice none 0 0, .bool false])) (hb : Below w.heap.size w w') : MkQ T q w e w' := by
  subst h; exact ⟨_, _, _, he, fun _ h => by (cases h), hb⟩
theorem mkq_some {T : TypeId} {q : Option (List TagL)} {acc : List TagL} {w : World} {e : Ending} {w' : World} {ao : Option Addr} {n c : Nat} {b : Bool} (h : q = some acc) (he : e = .returned (.tuple #[.slice ao n c, .bool b])) (hl : b = decide (0 < acc.length)) (ho : OwT T w.heap.size (.slice ao n c) acc w') (hb : Below w.heap.size w w') : MkQ T q w e w' := by
  subst h
  refine ⟨_, _, _, ?_, fun a h _ => by (cases h; exact ho), hb⟩
  rw [he, hl]
  cases acc <;> simp [okM]
def szV : Value → Nat
  | .string s => s.size
  | _ => 0
theorem mrk_a {f : Nat} {u : List UInt8} (acc : List TagL) (hf : u.length < f) (h : trimL u = []) : mrkF f u acc = some acc := by
  obtain ⟨g, rfl⟩ : ∃ g, f = g + 1 := ⟨f - 1, by omega⟩
  rw [mrkF, h]
theorem mrk_b {f : Nat} {u r : List UInt8} (acc : List TagL) (hf : u.length < f) (h : trimL u = 44 :: r) : mrkF f u acc = mrkF (f - 1) r acc ∧ r.length < u.length ∧ r.length < f - 1 := by
  obtain ⟨g, rfl⟩ : ∃ g, f = g + 1 := ⟨f - 1, by omega⟩
  have hl := trim_len u
  rw [h, List.length_cons] at hl
  refine ⟨?_, by omega, by omega⟩
  rw [mrkF, h]; simp
theorem mrk_c0 {f : Nat} {u r : List UInt8} {c : UInt8} (acc : List TagL) (hf : u.length < f) (h : trimL u = c :: r) (hc : c ≠ 44) (hk : cutT (c :: r) = none) : mrkF f u acc = none := by
  obtain ⟨g, rfl⟩ : ∃ g, f = g + 1 := ⟨f - 1, by omega⟩
  rw [mrkF, h]; simp only [hc, if_false, hk]
theorem mrk_c1 {f : Nat} {u r b : List UInt8} {c : UInt8} {t : TagL} (acc : List TagL) (hf : u.length < f) (h : trimL u = c :: r) (hc : c ≠ 44) (hk : cutT (c :: r) = some (t, b)) : b.length + 2 ≤ u.length ∧ (trimL b = [] → mrkF f u acc = some (acc ++ [t])) ∧ (∀ d v, trimL b = d :: v → d ≠ 44 → mrkF f u acc = none) ∧ (∀ v, trimL b = 44 :: v → mrkF f u acc = mrkF (f - 1) v (acc ++ [t]) ∧ v.length < b.length ∧ v.length < f - 1) := by
  obtain ⟨g, rfl⟩ : ∃ g, f = g + 1 := ⟨f - 1, by omega⟩
  have hl := trim_len u
  rw [h] at hl
  obtain ⟨e1, e2⟩ := cutT_some hk
  have htl := txt_len t
  have hll := congrArg List.length e1
  rw [List.length_append] at hll
  have hbl := trim_len b
  refine ⟨by omega, fun hb => ?_, fun d v hb hd => ?_, fun v hb => ⟨?_, ?_, ?_⟩⟩
  · rw [mrkF, h]; simp only [hc, if_false, hk, hb]
  · rw [mrkF, h]; simp only [hc, if_false, hk, hb, hd]
  · rw [mrkF, h]; simp only [hc, if_false, hk, hb, if_true]; rfl
  · rw [hb, List.length_cons] at hbl; omega
  · rw [hb, List.length_cons] at hbl; omega
theorem str_em {l : List UInt8} (h : l = []) : (mkS l).toList.isEmpty = true := by subst h; rw [Lib.toList_data]; rfl
theorem str_co {l : List UInt8} {c : UInt8} {r : List UInt8} (h : l = c :: r) : (mkS l).toList.isEmpty = false ∧ 0 < (mkS l).size ∧ (mkS l).extract 1 (mkS l).size = mkS r := by
  subst h
  refine ⟨by rw [Lib.toList_data]; rfl, by rw [size_mkS]; simp, ?_⟩
  rw [extN, data_mkS]; rfl
theorem str_b0 {l : List UInt8} {c : UInt8} {r : List UInt8} (h : l = c :: r) (h0 : 0 < (mkS l).size) : (mkS l)[0] = c := by
  subst h
  rw [← gdat _ 0 h0]; rfl
theorem b0_eq {t : ByteArray} {c : UInt8} (h0 : 0 < t.size) (h : t[0] = c) (hc : c = 44) : (((t[0].toNat : Nat) : Int) == 44) = true := by rw [h, hc]; rfl
theorem b0_ne {t : ByteArray} {c : UInt8} (h0 : 0 < t.size) (h : t[0] = c) (hc : c ≠ 44) : (((t[0].toNat : Nat) : Int) == 44) = false := by
  rw [h]
  have : ¬ ((c.toNat : Nat) : Int) = 44 := fun e => hc (UInt8.toNat_inj.1 (by show c.toNat = 44; omega))
  simpa using this
set_option maxRecDepth 100000 in
set_option maxHeartbeats 4000000 in
theorem marks_c (s : ByteArray) (w : World) (hs : s.size ≤ 1000) : Calls Tryd.prog 27 #[.string s] w (MkQ 28 (mrkF (s.size + 1) s.data.toList []) w) := by
  obtain ⟨i0, hi, hz0, hz1, hz2⟩ := info_parts infoT
  have hse : s = mkS s.data.toList := mkS_of rfl
  have hl : s.data.toList.length ≤ 1000 := by rw [← Lib.size_eq]; exact hs
  rw [Lib.size_eq]
  revert hl
  rw [hse, data_mkS]
  generalize s.data.toList = l
  intro hl
  clear hse hs
  generalize hq : mrkF (l.length + 1) l [] = q
  have HQ := Lib.hid hq
  clear hq
  go_enter Tryd.func27, Tryd.ntmps27
  go_wp2
  go_loopw [0, 4] (fun vs vl wr => ∃ (u : List UInt8) (acc : List TagL) (f : Nat), vs = .string (mkS u) ∧ mrkF f u acc = q ∧ u.length < f ∧ u.length + acc.length ≤ l.length ∧ OwT 28 w.heap.size vl acc wr ∧ Below w.heap.size w wr) (fun vs _ _ => szV vs)
  case atStart => exact ⟨l, [], l.length + 1, rfl, HQ.out, by omega, by simp, World.ownsRow_nil _ _ _ _, Below.refl _ _⟩
  case round =>
    clear HQ
    obtain ⟨u, acc, f, rfl, hM, hf, hla, hown, hB⟩ := hrel
    have HM := Lib.hid hM
    have HO := Lib.hid hown
    have HB := Lib.hid hB
    obtain ⟨ao, cap, rfl⟩ := own_len hown
    clear hM hown hB
    have HT := Lib.hid (fun W => trim_c (mkS u) W (by rw [size_mkS]; unfold maxLen; omega))
    rw [data_mkS] at HT
    go_wp2_with fail
    refine (HT.out _).mono ?_
    rintro e w1 ⟨rfl, hw⟩
    rw [← hw]; clear hw HT
    have hzu : szV (.string (mkS u)) = u.length := size_mkS u
    cases htr : trimL u with
    | nil =>
      have HA := Lib.hid ((mrk_a acc hf htr).symm.trans HM.out)
      have hem := str_em (l := trimL u) htr
      rw [htr] at hem
      clear htr
      revert hem
      generalize mkS ([] : List UInt8) = t
      intro hem
      go_wp2
      go_ret2
      exact mkq_some HA.out.symm rfl rfl HO.out HB.out
    | cons c r =>
      have hlr := trim_len u
      rw [htr, List.length_cons] at hlr
      obtain ⟨hem, h0, hex⟩ := str_co (l := c :: r) rfl
      have hb0 := str_b0 (l := c :: r) rfl h0
      have hts : (mkS (c :: r)).size ≤ 1000 := by rw [size_mkS, List.length_cons]; omega
      by_cases hc : c = 44
      · have hz := b0_eq h0 hb0 hc
        subst hc
        obtain ⟨h1, h2, h3⟩ := mrk_b acc hf htr
        have HA := Lib.hid (h1.symm.trans HM.out)
        have HX := Lib.hid hex
        have hz2 : szV (.string (mkS r)) = r.length := size_mkS r
        clear htr h1 hex hb0
        revert hem h0 hts hz HX
        generalize mkS (44 :: r) = t
        intro hem h0 hts hz HX
        go_wp2
        go_roundw
        case rel => exact ⟨r, acc, f - 1, by rw [HX.out], HA.out, by omega, by omega, HO.out, HB.out⟩
        case measure => show szV (.string (t.extract 1 t.size)) < szV (.string (mkS u)); rw [HX.out, hzu, hz2]; omega
      · have hz := b0_ne h0 hb0 hc
        have HC := Lib.hid (fun W => cut_c (mkS (c :: r)) W hts)
        rw [data_mkS] at HC
        clear hex hb0
        cases hk : cutT (c :: r) with
        | none =>
          have HA := Lib.hid ((mrk_c0 acc hf htr hc hk).symm.trans HM.out)
          rw [ctv_no hk] at HC
          clear hk htr hc
          revert hem h0 hts hz HC
          generalize mkS (c :: r) = t
          intro hem h0 hts hz HC
          go_wp2_with fail
          refine (HC.out _).mono ?_
          rintro e w2 ⟨rfl, hb2⟩
          have HB2 : Hid (Below w.heap.size w w2) := HB.out.trans (hb2.mono HB.out.size)
          clear hb2
          go_wp2
          go_ret2
          exact mkq_no HA.out.symm rfl (HB2.out.alloc HB2.out.size _)
        | some tb =>
          obtain ⟨⟨tw, tx⟩, b⟩ := tb
          obtain ⟨hbl, k1, k2, k3⟩ := mrk_c1 acc hf htr hc hk
          have K1 := Lib.hid k1
          have K2 := Lib.hid k2
          have K3 := Lib.hid k3
          rw [ctv_yes hk] at HC
          simp only at HC
          clear hk htr hc k1 k2 k3
          have HT := Lib.hid (fun W => trim_c (mkS b) W (by rw [size_mkS]; unfold maxLen; omega))
          rw [data_mkS] at HT
          have hbt := trim_len b
          revert hem h0 hts hz HC
          generalize mkS (c :: r) = t
          intro hem h0 hts hz HC
          go_wp2_with fail
          refine (HC.out _).mono ?_
          rintro e w2 ⟨rfl, hb2⟩
          have HB2 : Hid (Below w.heap.size w w2) := HB.out.trans (hb2.mono HB.out.size)
          have HO2 := Lib.hid (HO.out.go hb2)
          clear hb2
          have HD : Hid (∃ W2, W2 = (w2.alloc (.cells #[.bool tw, .string (mkS tx)] 28)).alloc (.cells #[.bool tw, .string (mkS tx)] 28) ∧ W2.heap[w2.heap.size + 1]? = some (.cells #[.bool tw, .string (mkS tx)] 28 (0, 0)) ∧ Below w2.heap.size w2 W2) := by
            refine ⟨_, rfl, ?_, ((Below.refl _ _).alloc (Nat.le_refl _) _).alloc (by simp) _⟩
            have := heap_alloc_new (w2.alloc (.cells #[.bool tw, .string (mkS tx)] 28)) (.cells #[.bool tw, .string (mkS tx)] 28)
            simpa using this
          obtain ⟨W2, hW2, hk3, hbW⟩ := HD.out
          have HK3 := Lib.hid hk3
          have HBW := Lib.hid hbW
          have HOW := Lib.hid (HO2.out.go hbW)
          have HW2 := Lib.hid hW2
          clear HD hk3 hbW hW2
          go_wp2_with (at_builtin; rw [← HW2.out]; refine wpList_append_own _ rfl _ _ 37 rfl w.heap.size 28 i0 _ 2 24 Tryd.underlying37 hi hz0 hz1 hz2 rfl (by decide) _ _ _ rfl HOW.out ⟨w2.heap.size + 1, 0, none⟩ 1 1 [.bool tw, .string (mkS tx)] rfl rfl ?c1 ?c2 ?c3 ?c4 ?c5 ?_)
          case c1 =>
            intro j v hj
            have hj5 : j < 2 := by
              rcases Nat.lt_or_ge j 2 with h | h
              · exact h
              · rw [List.getElem?_eq_none (by show 2 ≤ j; exact h)] at hj; cases hj
            have ea : (⟨w2.heap.size + 1, 0, none⟩ : Addr).add j = ⟨w2.heap.size + 1, j, none⟩ := by unfold Addr.add; split <;> simp_all
            rw [ea, cell_of_row _ _ j _ _ _ HK3.out]
            match j, hj5 with
            | 0, _ => exact hj
            | 1, _ => exact hj
          case c2 => intro v hv; simp at hv; rcases hv with rfl | rfl <;> rfl
          case c3 => unfold maxLen; omega
          case c4 => omega
          case c5 => have := HB2.out.size; have := HBW.out.size; omega
          intro v' w5 hown' hgrow _
          have HO5 : Hid (OwT 28 w.heap.size v' (acc ++ [(tw, tx)]) w5) := by
            show OwT 28 w.heap.size v' (acc ++ [(tw, tx)]) w5
            unfold OwT
            rw [tgC_snoc, List.length_append]
            exact hown'
          have HB5 : Hid (Below w.heap.size w w5) := by
            have hb := HB2.out.trans (HBW.out.mono HB2.out.size)
            exact hb.grown hgrow hb.size (fun k hk => (HOW.out.lt k hk).1)
          clear hown' hgrow
          obtain ⟨ao5, cap5, hv5⟩ := own_len HO5.out
          rw [show (acc ++ [(tw, tx)]).length = acc.length + 1 by simp] at hv5
          subst hv5
          go_wp2_with fail
          refine (HT.out _).mono ?_
          rintro e w6 ⟨rfl, hw⟩
          rw [← hw]; clear hw HT
          cases htb : trimL b with
          | nil =>
            have HA := Lib.hid ((K1.out htb).symm.trans HM.out)
            have hem2 := str_em (l := ([] : List UInt8)) rfl
            clear htb
            revert hem2
            generalize mkS ([] : List UInt8) = t2
            intro hem2
            go_wp2
            go_ret2
            exact mkq_some HA.out.symm rfl (by simp) HO5.out HB5.out
          | cons d v =>
            rw [htb, List.length_cons] at hbt
            obtain ⟨hem2, h02, hex2⟩ := str_co (l := d :: v) rfl
            have hb02 := str_b0 (l := d :: v) rfl h02
            by_cases hd : d = 44
            · have hz3 := b0_eq h02 hb02 hd
              subst hd
              obtain ⟨h1, h2, h3⟩ := K3.out v htb
              have HA := Lib.hid (h1.symm.trans HM.out)
              have HX := Lib.hid hex2
              have hz4 : szV (.string (mkS v)) = v.length := size_mkS v
              clear htb h1 hex2 hb02
              revert hem2 h02 hz3 HX
              generalize mkS (44 :: v) = t2
              intro hem2 h02 hz3 HX
              go_wp2
              go_roundw
              case rel => exact ⟨v, acc ++ [(tw, tx)], f - 1, by rw [HX.out], HA.out, by omega, by rw [List.length_append]; simp; omega, HO5.out, HB5.out⟩
              case measure => show szV (.string (t2.extract 1 t2.size)) < szV (.string (mkS u)); rw [HX.out, hzu, hz4]; omega
            · have hz3 := b0_ne h02 hb02 hd
              have HA := Lib.hid ((K2.out d v htb hd).symm.trans HM.out)
              clear htb hex2 hb02 hd
              revert hem2 h02 hz3
              generalize mkS (d :: v) = t2
              intro hem2 h02 hz3
              go_wp2
              go_ret2
              exact mkq_no HA.out.symm rfl HB5.out
end Go.Proofs.YtojmjdgapfcjfaaDoor.Et

/- The contract of the document's own One, put together: for every text of at most a thousand bytes. -/
import Derived.Test.YtojmjdgapfcjfaaDoorEtOneW
namespace Go.Proofs.YtojmjdgapfcjfaaDoor.Et
open Go.RowKit Ch
set_option linter.unusedSimpArgs false
set_option linter.unusedVariables false

theorem isW_iff (l : List UInt8) : isW l = true ↔ l[0]? = some 87 ∧ l[1]? = some 47 := by
  unfold isW
  match l with
  | [] => simp [List.isPrefixOf]
  | [c] => simp [List.isPrefixOf]
  | c :: d :: r => simp [List.isPrefixOf]; constructor <;> (rintro ⟨a, b⟩; exact ⟨a.symm, b.symm⟩)
theorem bq (c n : UInt8) (k : Int) (hk : ((n.toNat : Nat) : Int) = k) : (((c.toNat : Nat) : Int) == k) = decide (c = n) := by
  subst hk
  by_cases h : c = n
  · subst h; simp
  · rw [decide_eq_false h]
    have : ¬ ((c.toNat : Nat) : Int) = (n.toNat : Int) := fun e => h (UInt8.toNat_inj.1 (by omega))
    simpa using this
theorem at_q (s : ByteArray) (k : Nat) (hk : k < s.size) : s.data.toList[k]? = some s[k] := by
  rw [List.getElem?_eq_getElem (by rw [← Lib.size_eq]; exact hk), gdat s k hk]
theorem mid_t {t : ByteArray} {n : Nat} (hn : t.size = n) : (t.extract 1 (n - 1)).data.toList = midL t.data.toList := by
  subst hn
  rw [Lib.extract_data]; unfold midL
  rw [← Lib.size_eq, show t.size - 1 - 1 = t.size - 2 by omega]
theorem one_ty {l : List UInt8} {t : ByteArray} {n : Nat} (ht : t.data.toList = unW l) (hn : t.size = n) (h2 : 2 ≤ n) (h0 : 0 < t.size) (hE : n - 1 < t.size) (q0 : t[0] = 34) (q1 : t[n - 1] = 34) (hm : mkA (t.extract 1 (n - 1)).data.toList = true) :
    oneL l = some (isW l, (t.extract 1 (n - 1)).data.toList) := by
  rw [mid_t hn] at hm ⊢
  rw [ht] at hm ⊢
  refine one_yes ?_ ?_ ?_ hm
  · rw [← ht, ← Lib.size_eq]; omega
  · rw [← ht, at_q t 0 h0, q0]
  · rw [← ht, ← Lib.size_eq, hn, at_q t (n - 1) hE, q1]
theorem one_tn {l : List UInt8} {t : ByteArray} {n : Nat} (ht : t.data.toList = unW l) (hn : t.size = n) (h0 : 0 < t.size) (hE : n - 1 < t.size) (h : ¬ (t[0] = 34 ∧ t[n - 1] = 34 ∧ mkA (t.extract 1 (n - 1)).data.toList = true)) : oneL l = none := by
  apply one_no
  rintro ⟨a, b, c, d⟩
  apply h
  rw [← ht, at_q t 0 h0] at b
  rw [← ht, ← Lib.size_eq, hn, at_q t (n - 1) hE] at c
  rw [← ht] at d
  exact ⟨Option.some.inj b, Option.some.inj c, by rw [mid_t hn]; exact d⟩
theorem one_sh {l : List UInt8} (h : ¬ 2 ≤ (unW l).length) : oneL l = none := one_no fun g => h g.1
def onV (q : Option TagL) : Ending := .returned (.tuple #[tgA q, .bool q.isSome])
theorem onV_no {q : Option TagL} (h : q = none) : onV q = .returned (.tuple #[.agg #[.bool false, .string ⟨#[]⟩], .bool false]) := by subst h; rfl
theorem onV_yes {q : Option TagL} {b : Bool} {t : ByteArray} (h : q = some (b, t.data.toList)) : onV q = .returned (.tuple #[.agg #[.bool b, .string t], .bool true]) := by
  subst h
  show Ending.returned (.tuple #[.agg #[.bool b, .string (mkS t.data.toList)], .bool true]) = _
  rw [← mkS_of rfl]
theorem OneR_c (s : ByteArray) (w : World) (hs : s.size ≤ 1000) : Calls Tryd.prog 14 #[.string s] w fun e w' => e = onV (oneL s.data.toList) ∧ Below w.heap.size w w' := by
  have q34 : ∀ c : UInt8, (((c.toNat : Nat) : Int) == 34) = decide (c = 34) := fun c => bq c 34 34 rfl
  have q87 : ∀ c : UInt8, (((c.toNat : Nat) : Int) == 87) = decide (c = 87) := fun c => bq c 87 87 rfl
  have q47 : ∀ c : UInt8, (((c.toNat : Nat) : Int) == 47) = decide (c = 47) := fun c => bq c 47 47 rfl
  by_cases h1 : 1 < s.size
  · have h00 : 0 < s.size := by omega
    by_cases hw : s[0] = 87 ∧ s[1] = 47
    · have hW : isW s.data.toList = true := (isW_iff _).2 ⟨by rw [at_q s 0 h00, hw.1], by rw [at_q s 1 h1, hw.2]⟩
      have hU : (s.extract 2 s.size).data.toList = unW s.data.toList := by
        unfold unW
        rw [hW, extN, data_mkS]; rfl
      have hts : (s.extract 2 s.size).size = s.size - 2 := by rw [Lib.size_eq, hU]; unfold unW; rw [hW]; simp [← Lib.size_eq]
      have b0 : (((s[0].toNat : Nat) : Int) == 87) = true := by rw [q87, decide_eq_true hw.1]
      have b1 : (((s[1].toNat : Nat) : Int) == 47) = true := by rw [q47, decide_eq_true hw.2]
      by_cases h2 : 2 ≤ s.size - 2
      · have h3 : 0 < (s.extract 2 s.size).size := by omega
        have hE : s.size - 2 - 1 < (s.extract 2 s.size).size := by omega
        by_cases hq : (s.extract 2 s.size)[0] = 34
        · by_cases hl : (s.extract 2 s.size)[s.size - 2 - 1] = 34
          · have HR := Lib.hid (fun W => right_r ((s.extract 2 s.size).extract 1 (s.size - 2 - 1)) W (by rw [ByteArray.size_extract]; omega))
            cases hm : mkA ((s.extract 2 s.size).extract 1 (s.size - 2 - 1)).data.toList with
            | true =>
              rw [hm] at HR
              have e := one_ty hU hts h2 h3 hE hq hl hm
              rw [hW] at e
              rw [onV_yes e]
              exact oneR_we s w hs h1 b0 b1 h2 h3 (by rw [q34, decide_eq_true hq]) hE (by rw [q34, decide_eq_true hl]) HR
            | false =>
              rw [hm] at HR
              rw [onV_no (one_tn hU hts h3 hE (fun g => by rw [g.2.2] at hm; cases hm))]
              exact oneR_wd s w hs h1 b0 b1 h2 h3 (by rw [q34, decide_eq_true hq]) hE (by rw [q34, decide_eq_true hl]) HR
          · rw [onV_no (one_tn hU hts h3 hE (fun g => hl g.2.1))]
            exact oneR_wc s w hs h1 b0 b1 h2 h3 (by rw [q34, decide_eq_true hq]) hE (by rw [q34, decide_eq_false hl])
        · rw [onV_no (one_tn hU hts h3 hE (fun g => hq g.1))]
          exact oneR_wb s w hs h1 b0 b1 h2 h3 (by rw [q34, decide_eq_false hq])
      · rw [onV_no (one_sh (by rw [← hU, ← Lib.size_eq]; omega))]
        exact oneR_wa s w hs h1 b0 b1 (by omega)
    · have hW : isW s.data.toList = false := by
        cases hc : isW s.data.toList with
        | false => rfl
        | true =>
          exfalso
          have := (isW_iff _).1 hc
          rw [at_q s 0 h00, at_q s 1 h1] at this
          exact hw ⟨Option.some.inj this.1, Option.some.inj this.2⟩
      have hU : s.data.toList = unW s.data.toList := by unfold unW; rw [hW]; rfl
      have hE : s.size - 1 < s.size := by omega
      by_cases h0 : s[0] = 87
      · have hs1 : ¬ s[1] = 47 := fun e => hw ⟨h0, e⟩
        have hq : ¬ s[0] = 34 := by rw [h0]; decide
        rw [onV_no (one_tn hU rfl h00 hE (fun g => hq g.1))]
        exact oneR_n3 s w hs h1 (by rw [q87, decide_eq_true h0]) (by rw [q47, decide_eq_false hs1]) (by rw [q34, decide_eq_false hq])
      · have b0 : (((s[0].toNat : Nat) : Int) == 87) = false := by rw [q87, decide_eq_false h0]
        by_cases hq : s[0] = 34
        · by_cases hl : s[s.size - 1] = 34
          · have HR := Lib.hid (fun W => right_r (s.extract 1 (s.size - 1)) W (by rw [ByteArray.size_extract]; omega))
            cases hm : mkA (s.extract 1 (s.size - 1)).data.toList with
            | true =>
              rw [hm] at HR
              have e := one_ty hU rfl (by omega) h00 hE hq hl hm
              rw [hW] at e
              rw [onV_yes e]
              exact oneR_n2e s w hs h1 b0 (by rw [q34, decide_eq_true hq]) (by rw [q34, decide_eq_true hl]) HR
            | false =>
              rw [hm] at HR
              rw [onV_no (one_tn hU rfl h00 hE (fun g => by rw [g.2.2] at hm; cases hm))]
              exact oneR_n2d s w hs h1 b0 (by rw [q34, decide_eq_true hq]) (by rw [q34, decide_eq_true hl]) HR
          · rw [onV_no (one_tn hU rfl h00 hE (fun g => hl g.2.1))]
            exact oneR_n2c s w hs h1 b0 (by rw [q34, decide_eq_true hq]) (by rw [q34, decide_eq_false hl])
        · rw [onV_no (one_tn hU rfl h00 hE (fun g => hq g.1))]
          exact oneR_n2b s w hs h1 b0 (by rw [q34, decide_eq_false hq])
  · have hl : s.data.toList.length < 2 := by rw [← Lib.size_eq]; omega
    have := unW_len s.data.toList
    rw [onV_no (one_sh (by omega))]
    exact oneR_a s w hs h1
end Go.Proofs.YtojmjdgapfcjfaaDoor.Et

/- The contracts of package label's String and Hash: for few pairs of short names and values that are runes, where the tables lie as the program's text lays them. -/
import Derived.Test.YtjgbfpkjkglfnaaDoorLbD
import Derived.Test.YtjgbfpkjkglfnaaDoorJtBlK
namespace Go.Proofs.YtjgbfpkjkglfnaaDoor.Lb
open Go.RowKit Ch Jt
set_option linter.unusedSimpArgs false
set_option linter.unusedVariables false

theorem Ev.below {B : Nat} {w w' : World} (h : Ev w) (hb : Below B w w') (hB : 6 ≤ B) : Ev w' := ⟨h.1.below hb (Nat.le_trans (by decide) hB), nuTabs_below h.2 hb hB⟩
/-- a pair as text -/
def oneL (x : FB) : List UInt8 := x.1.data.toList ++ (61 :: quoL x.2.data.toList)
/-- pairs as text, with commas between -/
def prsL : List FB → List UInt8
  | [] => []
  | x :: r => oneL x ++ r.flatMap fun y => 44 :: oneL y
def txtL (gs : List FB) : List UInt8 := 123 :: (prsL gs ++ [125])
theorem prs_snoc (l : List FB) (x : FB) : prsL (l ++ [x]) = prsL l ++ (if l = [] then [] else [44]) ++ oneL x := by
  cases l with
  | nil => simp [prsL]
  | cons y r => rw [List.cons_append, prsL, prsL, List.flatMap_append, List.flatMap_singleton]; simp
theorem prs_step {gs : List FB} {k : Nat} (hk : k < gs.length) : prsL (gs.take (k + 1)) = prsL (gs.take k) ++ (if k = 0 then [] else [44]) ++ oneL gs[k] := by
  rw [List.take_succ_eq_append_getElem hk, prs_snoc]
  by_cases h : k = 0
  · subst h; rfl
  · rw [if_neg h, if_neg (by intro e; have := congrArg List.length e; rw [List.length_take, List.length_nil] at this; omega)]
def shortF (f : FB) : Prop := f.1.size ≤ 300 ∧ f.2.size ≤ 300
theorem one_len {x : FB} (h : shortF x) : (oneL x).length ≤ 2200 := by
  have h1 := quL_len x.2.data.toList
  have h2 := Lib.size_eq x.1
  have h3 := Lib.size_eq x.2
  unfold shortF at h
  unfold oneL quoL
  simp only [List.length_append, List.length_cons, List.length_nil]
  omega
theorem prs_len : ∀ {gs : List FB}, (∀ x ∈ gs, shortF x) → (prsL gs).length ≤ 2201 * gs.length := by
  intro gs
  induction gs with
  | nil => intro _; simp [prsL]
  | cons x r _ =>
    intro h
    have h1 := one_len (h x (by simp))
    have h2 : ∀ l : List FB, (∀ y ∈ l, shortF y) → (l.flatMap fun y => 44 :: oneL y).length ≤ 2201 * l.length := by
      intro l
      induction l with
      | nil => intro _; simp
      | cons y s ih =>
        intro hs
        have a := one_len (hs y (by simp))
        have b := ih (fun z hz => hs z (by simp [hz]))
        rw [List.flatMap_cons, List.length_append]
        simp only [List.length_cons]
        omega
    have h3 := h2 r (fun y hy => h y (by simp [hy]))
    rw [prsL, List.length_append]
    simp only [List.length_cons]
    omega
theorem take_short {gs : List FB} (h : ∀ x ∈ gs, shortF x) (k : Nat) : (prsL (gs.take k)).length ≤ 2201 * gs.length :=
  Nat.le_trans (prs_len fun x hx => h x (List.mem_of_mem_take hx)) (Nat.mul_le_mul_left _ (List.length_take_le' _ _))
theorem one_data (x y : ByteArray) : (x ++ ⟨#[61]⟩ ++ Jt.mkS (quoL y.data.toList) : ByteArray).data.toList = oneL (x, y) := by
  simp [oneL, Jt.mkS]
set_option maxRecDepth 100000 in
set_option maxHeartbeats 4000000 in
theorem String_c (ao : Option Addr) (cap : Nat) (gs : List FB) (w : World) (hE : Ev w) (hR : RdF (.slice ao gs.length cap) gs w) (hm : gs.length ≤ 100) (hs : ∀ x ∈ gs, shortF x) (hv : ∀ x ∈ gs, vldB x.2.data.toList = true) :
    Calls Tryd.prog 12 #[.agg #[.slice ao gs.length cap]] w fun e w' => e = .returned (.string (Jt.mkS (txtL gs))) ∧ Below w.heap.size w w' := by
  obtain ⟨W1, hW1, hk1, hb1⟩ : ∃ W1, W1 = w.alloc (.cells #[.slice ao gs.length cap] 27) ∧ W1.heap[w.heap.size]? = some (.cells #[.slice ao gs.length cap] 27 (0, 0)) ∧ Below w.heap.size w W1 := ⟨_, rfl, heap_alloc_new w _, (Below.refl _ _).alloc (Nat.le_refl _) _⟩
  have hlt1 : w.heap.size < W1.heap.size := (Array.getElem?_eq_some_iff.1 hk1).1
  have hbig := hE.big
  have hba := (Below.refl W1.heap.size W1).alloc (Nat.le_refl _) (.cells #[.pointer none, .slice none 0 0] 63)
  have hz1 : W1.heap.size = w.heap.size + 1 := by rw [hW1]; simp
  have HBD : Hid (Bld (w.heap.size + 1) [] (W1.alloc (.cells #[.pointer none, .slice none 0 0] 63))) := by
    show Bld _ _ _
    rw [← hz1]; exact Bld.new W1
  have HB2 : Hid (Below w.heap.size w (W1.alloc (.cells #[.pointer none, .slice none 0 0] 63))) := hb1.trans (hba.mono hb1.size)
  have HK2 : Hid ((W1.alloc (.cells #[.pointer none, .slice none 0 0] 63)).heap[w.heap.size]? = some (.cells #[.slice ao gs.length cap] 27 (0, 0))) := (hba.block _ hlt1).trans hk1
  have HW1 := Lib.hid hW1
  have HE := Lib.hid hE
  have HR := Lib.hid hR
  have HS := Lib.hid hs
  have HV := Lib.hid hv
  have HWS := Lib.hid (fun (W : World) (l : List UInt8) (s : ByteArray) (hl : l.length + s.size ≤ 900000) (h : Bld (w.heap.size + 1) l W) => wstrK_c (w.heap.size + 1) l s W h (by omega))
  clear hba hE hR hs hv hk1 hb1 hW1 hz1
  go_enter Tryd.func12, Tryd.ntmps12
  go_wp2_with fail
  rw [← HW1.out]
  clear HW1
  (with_reducible refine (HWS.out _ [] ⟨#[123]⟩ (by decide) HBD.out).mono ?_)
  rintro e w3 ⟨rfl, hbl3, hb3, _⟩
  have HBL3 := Lib.hid hbl3
  have HB3 : Hid (Below w.heap.size w w3) := HB2.out.trans (hb3.mono (Nat.le_succ _))
  have HK3 : Hid (w3.heap[w.heap.size]? = some (.cells #[.slice ao gs.length cap] 27 (0, 0))) := (hb3.block _ (Nat.lt_succ_self _)).trans HK2.out
  have d0 := cell_of_row _ _ 0 _ _ _ HK3.out
  clear hbl3 hb3 HBD HB2 HK2
  go_wp2
  clear d0
  go_loopw [12] (fun v wr => ∃ k : Nat, k ≤ gs.length ∧ v = .int .i64 k ∧ Hid (Bld (w.heap.size + 1) (123 :: prsL (gs.take k)) wr) ∧ Hid (Below w.heap.size w wr)) (fun v _ => gs.length - (intOf v).toNat)
  case atStart => exact ⟨0, by omega, rfl, HBL3, HB3⟩
  case round =>
    clear HBL3 HB3 HK3
    obtain ⟨k, hk, rfl, HBL, HB⟩ := hrel
    by_cases hlt : k < gs.length
    · obtain ⟨g1, o1, rfl, hg1, hat1⟩ := rdf_at2 (HR.out.go HB.out) (by omega)
      obtain ⟨p0, p1⟩ := hat1 k hlt
      have hsk := HS.out _ (List.getElem_mem hlt)
      have hvk := HV.out _ (List.getElem_mem hlt)
      have hln := take_short HS.out k
      have HST := Lib.hid (prs_step hlt)
      have hol := one_len hsk
      have hk0 : (0 : Int) ≤ (k : Int) := by omega
      have hkl : (k : Int) < (gs.length : Int) := by omega
      obtain ⟨⟨x, y⟩, hxy⟩ : ∃ f : FB, gs[k] = f := ⟨_, rfl⟩
      rw [hxy] at p0 p1 hsk hvk hol HST
      simp only at p0 p1 hvk
      have hx : x.size ≤ 300 := hsk.1
      have hy : y.size ≤ 300 := hsk.2
      have HQ := Lib.hid (fun W h1 h2 => Quote_c y W (h1 : Ev W).1 h1.2 hy h2)
      unfold quoV at HQ
      rw [if_pos hvk] at HQ
      have hql := quL_len y.data.toList
      have hys := Lib.size_eq y
      have HOD := Lib.hid (one_data x y)
      have hqz : (Jt.mkS (quoL y.data.toList)).size ≤ 1802 := by rw [Jt.size_mkS]; unfold quoL; simp only [List.length_cons, List.length_append, List.length_nil]; omega
      clear hat1 hsk hvk hxy hql hys hol
      revert HQ HOD hqz
      generalize Jt.mkS (quoL y.data.toList) = qv
      intro HQ HOD hqz
      have hgn : g1 ≠ wr.heap.size := by omega
      have hbw := HB.out.size
      have hblt := HBL.out.lt
      obtain ⟨WP, hWP, hkP, hbP⟩ : ∃ WP, WP = wr.alloc (.cells #[.string x, .string y] 52) ∧ WP.heap[wr.heap.size]? = some (.cells #[.string x, .string y] 52 (0, 0)) ∧ Below wr.heap.size wr WP := ⟨_, rfl, heap_alloc_new wr _, (Below.refl _ _).alloc (Nat.le_refl _) _⟩
      have HWP := Lib.hid hWP
      have HPV0 := Lib.hid hkP
      have HBLP := Lib.hid (HBL.out.go hbP)
      have HBP : Hid (Below w.heap.size w WP) := HB.out.trans (hbP.mono HB.out.size)
      have hne : (some wr.heap.size : Option Nat) ≠ some (w.heap.size + 1) := by intro h; injection h with h; omega
      clear hWP hkP hbP
      by_cases h0 : k = 0
      · have HSN : Hid (123 :: prsL (gs.take (k + 1)) = (123 :: prsL (gs.take k)) ++ oneL (x, y)) := by show _ = _; rw [HST.out, if_pos h0]; simp
        have hk1 : ¬ (0 : Int) < (k : Int) := by omega
        clear HST h0
        go_wp2_with fail
        rw [← HWP.out]
        clear HWP p0 p1
        have HBLV := HBLP
        have HBV := HBP
        have HPV := HPV0
        clear HBLP HBP HPV0
        (with_reducible refine (HQ.out WP (HE.out.below HBV.out hbig) (Nat.le_trans hbig HBV.out.size)).mono ?_)
        rintro e w6 ⟨rfl, hb6⟩
        have HBL6 := Lib.hid (HBLV.out.go hb6)
        have HB6 : Hid (Below w.heap.size w w6) := HBV.out.trans (hb6.mono HBV.out.size)
        have HP6 : Hid (w6.heap[wr.heap.size]? = some (.cells #[.string x, .string y] 52 (0, 0))) := (hb6.block _ (Array.getElem?_eq_some_iff.1 HPV.out).1).trans HPV.out
        have e0 := (cell2 HP6.out).1
        clear hb6
        have hy1 : (x ++ (⟨#[61]⟩ : ByteArray)).size ≤ 301 := by rw [ByteArray.size_append]; show _ + 1 ≤ _; omega
        go_wp2_with fail
        (with_reducible refine (HWS.out w6 (123 :: prsL (gs.take k)) (x ++ ⟨#[61]⟩ ++ qv) (by rw [ByteArray.size_append]; simp only [List.length_cons, List.length_append, List.length_nil]; omega) HBL6.out).mono ?_)
        rintro e w7 ⟨rfl, hbl7, hb7, _⟩
        rw [HOD.out] at hbl7
        have HBL7 := Lib.hid hbl7
        have HB7 : Hid (Below w.heap.size w w7) := HB6.out.trans (hb7.mono (by omega))
        clear hbl7 hb7 HBLV HBL6 e0
        go_wp2
        go_roundw
        case rel => exact ⟨k + 1, by omega, by go_num, by rw [HSN.out]; exact HBL7, HB7⟩
        case measure => simp [intOf]; omega
      · have HSN : Hid (123 :: prsL (gs.take (k + 1)) = (123 :: prsL (gs.take k) ++ [44]) ++ oneL (x, y)) := by show _ = _; rw [HST.out, if_neg h0]; simp
        have hk1 : (0 : Int) < (k : Int) := by omega
        clear HST
        go_wp2_with fail
        rw [← HWP.out]
        clear HWP p0 p1
        (with_reducible refine (HWS.out WP (123 :: prsL (gs.take k)) ⟨#[44]⟩ (by rw [show (ByteArray.mk #[44]).size = 1 from rfl]; simp only [List.length_cons]; omega) HBLP.out).mono ?_)
        rintro e w5 ⟨rfl, hbl5, hb5, hk5⟩
        have HBLV : Hid (Bld (w.heap.size + 1) (123 :: prsL (gs.take k) ++ [44]) w5) := hbl5
        have HBV : Hid (Below w.heap.size w w5) := HBP.out.trans (hb5.mono (Nat.le_succ _))
        have HPV := Lib.hid (hk5 _ _ HPV0.out hne (by intro c fz h; injection h with _ h2; exact absurd h2 (by decide)))
        have e1 := (cell2 HPV.out).2
        clear hbl5 hb5 hk5 HBLP HBP HPV0
        go_wp2_with fail
        (with_reducible refine (HQ.out w5 (HE.out.below HBV.out hbig) (Nat.le_trans hbig HBV.out.size)).mono ?_)
        rintro e w6 ⟨rfl, hb6⟩
        have HBL6 := Lib.hid (HBLV.out.go hb6)
        have HB6 : Hid (Below w.heap.size w w6) := HBV.out.trans (hb6.mono HBV.out.size)
        have HP6 : Hid (w6.heap[wr.heap.size]? = some (.cells #[.string x, .string y] 52 (0, 0))) := (hb6.block _ (Array.getElem?_eq_some_iff.1 HPV.out).1).trans HPV.out
        have e0 := (cell2 HP6.out).1
        clear hb6
        have hy1 : (x ++ (⟨#[61]⟩ : ByteArray)).size ≤ 301 := by rw [ByteArray.size_append]; show _ + 1 ≤ _; omega
        go_wp2_with fail
        (with_reducible refine (HWS.out w6 (123 :: prsL (gs.take k) ++ [44]) (x ++ ⟨#[61]⟩ ++ qv) (by rw [ByteArray.size_append]; simp only [List.length_cons, List.length_append, List.length_nil]; omega) HBL6.out).mono ?_)
        rintro e w7 ⟨rfl, hbl7, hb7, _⟩
        rw [HOD.out] at hbl7
        have HBL7 := Lib.hid hbl7
        have HB7 : Hid (Below w.heap.size w w7) := HB6.out.trans (hb7.mono (by omega))
        clear hbl7 hb7 HBLV HBL6 e0
        go_wp2
        go_roundw
        case rel => exact ⟨k + 1, by omega, by go_num, by rw [HSN.out]; exact HBL7, HB7⟩
        case measure => simp [intOf]; omega
    · have HST := Lib.hid (str_c (w.heap.size + 1) (123 :: prsL (gs.take k) ++ [125]))
      have hln := take_short HS.out k
      have HTX : Hid (123 :: prsL (gs.take k) ++ [125] = txtL gs) := by show _ = _; rw [List.take_of_length_le (by omega)]; rfl
      go_wp2_with fail
      (with_reducible refine (HWS.out wr (123 :: prsL (gs.take k)) ⟨#[125]⟩ (by rw [show (ByteArray.mk #[125]).size = 1 from rfl]; simp only [List.length_cons]; omega) HBL.out).mono ?_)
      rintro e w5 ⟨rfl, hbl5, hb5, _⟩
      have HB5 : Hid (Below w.heap.size w w5) := HB.out.trans (hb5.mono (Nat.le_succ _))
      have HSC := Lib.hid (HST.out w5 hbl5)
      rw [HTX.out] at HSC
      clear hbl5 hb5 HST
      go_wp2_with fail
      (with_reducible refine HSC.out.mono ?_)
      rintro e w6 ⟨rfl, hb6⟩
      have HB6 : Hid (Below w.heap.size w w6) := HB5.out.trans (hb6.mono (Nat.le_succ _))
      clear hb6
      go_wp2
      go_ret
      exact ⟨rfl, HB6.out⟩
end Go.Proofs.YtjgbfpkjkglfnaaDoor.Lb

/- Contracts and plain mathematics of some packages' functions, laid together; conditions as each one says. -/
import Derived.Test.YtbimncnicioagaaDoorLbD
import Derived.Test.YtbimncnicioagaaDoorJtBlK
import Derived.Deep.SlicePairs
import Derived.Deep.AppendLies
import Derived.ShutString
import Derived.ChangeOld
namespace Go.Proofs.YtbimncnicioagaaDoor.Lb
open Go.RowKit Ch Jt
set_option linter.unusedSimpArgs false
set_option linter.unusedVariables false

theorem Ev.below {B : Nat} {w w' : World} (h : Ev w) (hb : Below B w w') (hB : 6 ≤ B) : Ev w' := ⟨h.1.below hb (Nat.le_trans (by decide) hB), nuTabs_below h.2 hb hB⟩
/-- a pair as text -/
def oneL (x : FB) : List UInt8 := x.1.data.toList ++ (61 :: quoL x.2.data.toList)
/-- pairs as text, with commas between -/
def prsL : List FB → List UInt8
  | [] => []
  | x :: r => oneL x ++ r.flatMap fun y => 44 :: oneL y
def txtL (gs : List FB) : List UInt8 := 123 :: (prsL gs ++ [125])
theorem prs_snoc (l : List FB) (x : FB) : prsL (l ++ [x]) = prsL l ++ (if l = [] then [] else [44]) ++ oneL x := by
  cases l with
  | nil => simp [prsL]
  | cons y r => rw [List.cons_append, prsL, prsL, List.flatMap_append, List.flatMap_singleton]; simp
theorem prs_step {gs : List FB} {k : Nat} (hk : k < gs.length) : prsL (gs.take (k + 1)) = prsL (gs.take k) ++ (if k = 0 then [] else [44]) ++ oneL gs[k] := by
  rw [List.take_succ_eq_append_getElem hk, prs_snoc]
  by_cases h : k = 0
  · subst h; rfl
  · rw [if_neg h, if_neg (by intro e; have := congrArg List.length e; rw [List.length_take, List.length_nil] at this; omega)]
def shortF (f : FB) : Prop := f.1.size ≤ 300 ∧ f.2.size ≤ 300
theorem one_len {x : FB} (h : shortF x) : (oneL x).length ≤ 2200 := by
  have h1 := quL_len x.2.data.toList
  have h2 := Lib.size_eq x.1
  have h3 := Lib.size_eq x.2
  unfold shortF at h
  unfold oneL quoL
  simp only [List.length_append, List.length_cons, List.length_nil]
  omega
theorem prs_len : ∀ {gs : List FB}, (∀ x ∈ gs, shortF x) → (prsL gs).length ≤ 2201 * gs.length := by
  intro gs
  induction gs with
  | nil => intro _; simp [prsL]
  | cons x r _ =>
    intro h
    have h1 := one_len (h x (by simp))
    have h2 : ∀ l : List FB, (∀ y ∈ l, shortF y) → (l.flatMap fun y => 44 :: oneL y).length ≤ 2201 * l.length := by
      intro l
      induction l with
      | nil => intro _; simp
      | cons y s ih =>
        intro hs
        have a := one_len (hs y (by simp))
        have b := ih (fun z hz => hs z (by simp [hz]))
        rw [List.flatMap_cons, List.length_append]
        simp only [List.length_cons]
        omega
    have h3 := h2 r (fun y hy => h y (by simp [hy]))
    rw [prsL, List.length_append]
    simp only [List.length_cons]
    omega
theorem take_short {gs : List FB} (h : ∀ x ∈ gs, shortF x) (k : Nat) : (prsL (gs.take k)).length ≤ 2201 * gs.length :=
  Nat.le_trans (prs_len fun x hx => h x (List.mem_of_mem_take hx)) (Nat.mul_le_mul_left _ (List.length_take_le' _ _))
theorem one_data (x y : ByteArray) : (x ++ ⟨#[61]⟩ ++ Jt.mkS (quoL y.data.toList) : ByteArray).data.toList = oneL (x, y) := by
  simp [oneL, Jt.mkS]
set_option maxRecDepth 100000 in
set_option maxHeartbeats 4000000 in
theorem String_c (ao : Option Addr) (cap : Nat) (gs : List FB) (w : World) (hE : Ev w) (hR : RdF (.slice ao gs.length cap) gs w) (hm : gs.length ≤ 100) (hs : ∀ x ∈ gs, shortF x) (hv : ∀ x ∈ gs, vldB x.2.data.toList = true) :
    Calls Tryd.prog 27 #[.agg #[.slice ao gs.length cap]] w fun e w' => e = .returned (.string (Jt.mkS (txtL gs))) ∧ Below w.heap.size w w' := by
  obtain ⟨W1, hW1, hk1, hb1⟩ : ∃ W1, W1 = w.alloc (.cells #[.slice ao gs.length cap] 27) ∧ W1.heap[w.heap.size]? = some (.cells #[.slice ao gs.length cap] 27 (0, 0)) ∧ Below w.heap.size w W1 := ⟨_, rfl, heap_alloc_new w _, (Below.refl _ _).alloc (Nat.le_refl _) _⟩
  have hlt1 : w.heap.size < W1.heap.size := (Array.getElem?_eq_some_iff.1 hk1).1
  have hbig := hE.big
  have hba := (Below.refl W1.heap.size W1).alloc (Nat.le_refl _) (.cells #[.pointer none, .slice none 0 0] 70)
  have hz1 : W1.heap.size = w.heap.size + 1 := by rw [hW1]; simp
  have HBD : Hid (Bld (w.heap.size + 1) [] (W1.alloc (.cells #[.pointer none, .slice none 0 0] 70))) := by
    show Bld _ _ _
    rw [← hz1]; exact Bld.new W1
  have HB2 : Hid (Below w.heap.size w (W1.alloc (.cells #[.pointer none, .slice none 0 0] 70))) := hb1.trans (hba.mono hb1.size)
  have HK2 : Hid ((W1.alloc (.cells #[.pointer none, .slice none 0 0] 70)).heap[w.heap.size]? = some (.cells #[.slice ao gs.length cap] 27 (0, 0))) := (hba.block _ hlt1).trans hk1
  have HW1 := Lib.hid hW1
  have HE := Lib.hid hE
  have HR := Lib.hid hR
  have HS := Lib.hid hs
  have HV := Lib.hid hv
  have HWS := Lib.hid (fun (W : World) (l : List UInt8) (s : ByteArray) (hl : l.length + s.size ≤ 900000) (h : Bld (w.heap.size + 1) l W) => wstrK_c (w.heap.size + 1) l s W h (by omega))
  clear hba hE hR hs hv hk1 hb1 hW1 hz1
  go_enter Tryd.func27, Tryd.ntmps27
  go_wp2_with fail
  rw [← HW1.out]
  clear HW1
  (with_reducible refine (HWS.out _ [] ⟨#[123]⟩ (by decide) HBD.out).mono ?_)
  rintro e w3 ⟨rfl, hbl3, hb3, _⟩
  have HBL3 := Lib.hid hbl3
  have HB3 : Hid (Below w.heap.size w w3) := HB2.out.trans (hb3.mono (Nat.le_succ _))
  have HK3 : Hid (w3.heap[w.heap.size]? = some (.cells #[.slice ao gs.length cap] 27 (0, 0))) := (hb3.block _ (Nat.lt_succ_self _)).trans HK2.out
  have d0 := cell_of_row _ _ 0 _ _ _ HK3.out
  clear hbl3 hb3 HBD HB2 HK2
  go_wp2
  clear d0
  go_loopw [12] (fun v wr => ∃ k : Nat, k ≤ gs.length ∧ v = .int .i64 k ∧ Hid (Bld (w.heap.size + 1) (123 :: prsL (gs.take k)) wr) ∧ Hid (Below w.heap.size w wr)) (fun v _ => gs.length - (intOf v).toNat)
  case atStart => exact ⟨0, by omega, rfl, HBL3, HB3⟩
  case round =>
    clear HBL3 HB3 HK3
    obtain ⟨k, hk, rfl, HBL, HB⟩ := hrel
    by_cases hlt : k < gs.length
    · obtain ⟨g1, o1, rfl, hg1, hat1⟩ := rdf_at2 (HR.out.go HB.out) (by omega)
      obtain ⟨p0, p1⟩ := hat1 k hlt
      have hsk := HS.out _ (List.getElem_mem hlt)
      have hvk := HV.out _ (List.getElem_mem hlt)
      have hln := take_short HS.out k
      have HST := Lib.hid (prs_step hlt)
      have hol := one_len hsk
      have hk0 : (0 : Int) ≤ (k : Int) := by omega
      have hkl : (k : Int) < (gs.length : Int) := by omega
      obtain ⟨⟨x, y⟩, hxy⟩ : ∃ f : FB, gs[k] = f := ⟨_, rfl⟩
      rw [hxy] at p0 p1 hsk hvk hol HST
      simp only at p0 p1 hvk
      have hx : x.size ≤ 300 := hsk.1
      have hy : y.size ≤ 300 := hsk.2
      have HQ := Lib.hid (fun W h1 h2 => Quote_c y W (h1 : Ev W).1 h1.2 hy h2)
      unfold quoV at HQ
      rw [if_pos hvk] at HQ
      have hql := quL_len y.data.toList
      have hys := Lib.size_eq y
      have HOD := Lib.hid (one_data x y)
      have hqz : (Jt.mkS (quoL y.data.toList)).size ≤ 1802 := by rw [Jt.size_mkS]; unfold quoL; simp only [List.length_cons, List.length_append, List.length_nil]; omega
      clear hat1 hsk hvk hxy hql hys hol
      revert HQ HOD hqz
      generalize Jt.mkS (quoL y.data.toList) = qv
      intro HQ HOD hqz
      have hgn : g1 ≠ wr.heap.size := by omega
      have hbw := HB.out.size
      have hblt := HBL.out.lt
      obtain ⟨WP, hWP, hkP, hbP⟩ : ∃ WP, WP = wr.alloc (.cells #[.string x, .string y] 58) ∧ WP.heap[wr.heap.size]? = some (.cells #[.string x, .string y] 58 (0, 0)) ∧ Below wr.heap.size wr WP := ⟨_, rfl, heap_alloc_new wr _, (Below.refl _ _).alloc (Nat.le_refl _) _⟩
      have HWP := Lib.hid hWP
      have HPV0 := Lib.hid hkP
      have HBLP := Lib.hid (HBL.out.go hbP)
      have HBP : Hid (Below w.heap.size w WP) := HB.out.trans (hbP.mono HB.out.size)
      have hne : (some wr.heap.size : Option Nat) ≠ some (w.heap.size + 1) := by intro h; injection h with h; omega
      clear hWP hkP hbP
      by_cases h0 : k = 0
      · have HSN : Hid (123 :: prsL (gs.take (k + 1)) = (123 :: prsL (gs.take k)) ++ oneL (x, y)) := by show _ = _; rw [HST.out, if_pos h0]; simp
        have hk1 : ¬ (0 : Int) < (k : Int) := by omega
        clear HST h0
        go_wp2_with fail
        rw [← HWP.out]
        clear HWP p0 p1
        have HBLV := HBLP
        have HBV := HBP
        have HPV := HPV0
        clear HBLP HBP HPV0
        (with_reducible refine (HQ.out WP (HE.out.below HBV.out hbig) (Nat.le_trans hbig HBV.out.size)).mono ?_)
        rintro e w6 ⟨rfl, hb6⟩
        have HBL6 := Lib.hid (HBLV.out.go hb6)
        have HB6 : Hid (Below w.heap.size w w6) := HBV.out.trans (hb6.mono HBV.out.size)
        have HP6 : Hid (w6.heap[wr.heap.size]? = some (.cells #[.string x, .string y] 58 (0, 0))) := (hb6.block _ (Array.getElem?_eq_some_iff.1 HPV.out).1).trans HPV.out
        have e0 := (cell2 HP6.out).1
        clear hb6
        have hy1 : (x ++ (⟨#[61]⟩ : ByteArray)).size ≤ 301 := by rw [ByteArray.size_append]; show _ + 1 ≤ _; omega
        go_wp2_with fail
        (with_reducible refine (HWS.out w6 (123 :: prsL (gs.take k)) (x ++ ⟨#[61]⟩ ++ qv) (by rw [ByteArray.size_append]; simp only [List.length_cons, List.length_append, List.length_nil]; omega) HBL6.out).mono ?_)
        rintro e w7 ⟨rfl, hbl7, hb7, _⟩
        rw [HOD.out] at hbl7
        have HBL7 := Lib.hid hbl7
        have HB7 : Hid (Below w.heap.size w w7) := HB6.out.trans (hb7.mono (by omega))
        clear hbl7 hb7 HBLV HBL6 e0
        go_wp2
        go_roundw
        case rel => exact ⟨k + 1, by omega, by go_num, by rw [HSN.out]; exact HBL7, HB7⟩
        case measure => simp [intOf]; omega
      · have HSN : Hid (123 :: prsL (gs.take (k + 1)) = (123 :: prsL (gs.take k) ++ [44]) ++ oneL (x, y)) := by show _ = _; rw [HST.out, if_neg h0]; simp
        have hk1 : (0 : Int) < (k : Int) := by omega
        clear HST
        go_wp2_with fail
        rw [← HWP.out]
        clear HWP p0 p1
        (with_reducible refine (HWS.out WP (123 :: prsL (gs.take k)) ⟨#[44]⟩ (by rw [show (ByteArray.mk #[44]).size = 1 from rfl]; simp only [List.length_cons]; omega) HBLP.out).mono ?_)
        rintro e w5 ⟨rfl, hbl5, hb5, hk5⟩
        have HBLV : Hid (Bld (w.heap.size + 1) (123 :: prsL (gs.take k) ++ [44]) w5) := hbl5
        have HBV : Hid (Below w.heap.size w w5) := HBP.out.trans (hb5.mono (Nat.le_succ _))
        have HPV := Lib.hid (hk5 _ _ HPV0.out hne (by intro c fz h; injection h with _ h2; exact absurd h2 (by decide)))
        have e1 := (cell2 HPV.out).2
        clear hbl5 hb5 hk5 HBLP HBP HPV0
        go_wp2_with fail
        (with_reducible refine (HQ.out w5 (HE.out.below HBV.out hbig) (Nat.le_trans hbig HBV.out.size)).mono ?_)
        rintro e w6 ⟨rfl, hb6⟩
        have HBL6 := Lib.hid (HBLV.out.go hb6)
        have HB6 : Hid (Below w.heap.size w w6) := HBV.out.trans (hb6.mono HBV.out.size)
        have HP6 : Hid (w6.heap[wr.heap.size]? = some (.cells #[.string x, .string y] 58 (0, 0))) := (hb6.block _ (Array.getElem?_eq_some_iff.1 HPV.out).1).trans HPV.out
        have e0 := (cell2 HP6.out).1
        clear hb6
        have hy1 : (x ++ (⟨#[61]⟩ : ByteArray)).size ≤ 301 := by rw [ByteArray.size_append]; show _ + 1 ≤ _; omega
        go_wp2_with fail
        (with_reducible refine (HWS.out w6 (123 :: prsL (gs.take k) ++ [44]) (x ++ ⟨#[61]⟩ ++ qv) (by rw [ByteArray.size_append]; simp only [List.length_cons, List.length_append, List.length_nil]; omega) HBL6.out).mono ?_)
        rintro e w7 ⟨rfl, hbl7, hb7, _⟩
        rw [HOD.out] at hbl7
        have HBL7 := Lib.hid hbl7
        have HB7 : Hid (Below w.heap.size w w7) := HB6.out.trans (hb7.mono (by omega))
        clear hbl7 hb7 HBLV HBL6 e0
        go_wp2
        go_roundw
        case rel => exact ⟨k + 1, by omega, by go_num, by rw [HSN.out]; exact HBL7, HB7⟩
        case measure => simp [intOf]; omega
    · have HST := Lib.hid (str_c (w.heap.size + 1) (123 :: prsL (gs.take k) ++ [125]))
      have hln := take_short HS.out k
      have HTX : Hid (123 :: prsL (gs.take k) ++ [125] = txtL gs) := by show _ = _; rw [List.take_of_length_le (by omega)]; rfl
      go_wp2_with fail
      (with_reducible refine (HWS.out wr (123 :: prsL (gs.take k)) ⟨#[125]⟩ (by rw [show (ByteArray.mk #[125]).size = 1 from rfl]; simp only [List.length_cons]; omega) HBL.out).mono ?_)
      rintro e w5 ⟨rfl, hbl5, hb5, _⟩
      have HB5 : Hid (Below w.heap.size w w5) := HB.out.trans (hb5.mono (Nat.le_succ _))
      have HSC := Lib.hid (HST.out w5 hbl5)
      rw [HTX.out] at HSC
      clear hbl5 hb5 HST
      go_wp2_with fail
      (with_reducible refine HSC.out.mono ?_)
      rintro e w6 ⟨rfl, hb6⟩
      have HB6 : Hid (Below w.heap.size w w6) := HB5.out.trans (hb6.mono (Nat.le_succ _))
      clear hb6
      go_wp2
      go_ret
      exact ⟨rfl, HB6.out⟩
end Go.Proofs.YtbimncnicioagaaDoor.Lb
namespace Go.Proofs.YtbimncnicioagaaDoor.Lb
open Go.RowKit Ch Jt
set_option linter.unusedSimpArgs false
set_option linter.unusedVariables false

/-- a number of bytes, one more byte in it -/
def hstp (z : Int) (c : UInt8) : Int := IntKind.u64.wrap (bits BinOp.xor IntKind.u64 z (IntKind.u64.wrap (c.toNat : Int)) * 1099511628211)
def hshL (l : List UInt8) : Int := l.foldl hstp 14695981039346656037
theorem hsh_snoc {s : ByteArray} {k : Nat} (h : k < s.size) : hshL (s.data.toList.take (k + 1)) = hstp (hshL (s.data.toList.take k)) s[k] := by
  rw [take_snoc h]; unfold hshL; rw [List.foldl_append]; rfl
end Go.Proofs.YtbimncnicioagaaDoor.Lb
namespace Go.Proofs.YtbimncnicioagaaDoor.Lb
open Go.RowKit Ch Jt Go.ChangeShapes Go.WideShapes
set_option linter.unusedSimpArgs false
set_option linter.unusedVariables false

def IsPrs (w : World) (a : Option Addr) (len : Nat) (ts : List FB) : Prop := ts.length = len ∧ len ≤ maxLen ∧ (∀ t ∈ ts, t.1.size ≤ maxLen ∧ t.2.size ≤ maxLen) ∧
  (ts ≠ [] → ∃ b off, a = some ⟨b, off, none⟩ ∧ b < w.heap.size ∧ ∀ i (hi : i < ts.length), w.cell? ⟨b, off + i * 2, none⟩ = some (.string ts[i].1) ∧ w.cell? ⟨b, off + i * 2 + 1, none⟩ = some (.string ts[i].2))
theorem pairs_of {H : Type} {enc : TypeId × Value → H} {W : World} {a : Option Addr} {len cap : Nat} {d : DataW H} {p : List MemPlace} (h : DataW.Trod enc Tryd.prog W 0 (fun _ => true) true 22 (.slice a len cap) d p) : ∃ ts, IsPrs W a len ts := by
  obtain ⟨fuel, hf⟩ := h
  rcases Deep.open_slice_pairs Tryd.underlying22 Tryd.underlying56 (by kernel_rfl) rfl rfl (by kernel_rfl) (by kernel_rfl) hf with ⟨hcs, _⟩ | ⟨x, l, c, m, n, V0, V1, D0, D1, P0, P1, hcs, hb, hl, hm, hmm, _, hx⟩
  · simp [Value.cells] at hcs
    obtain ⟨rfl, rfl, rfl⟩ := hcs
    exact ⟨[], rfl, by unfold maxLen; omega, fun t ht => by simp at ht, fun h => absurd rfl h⟩
  · simp [Value.cells] at hcs
    obtain ⟨rfl, rfl, rfl⟩ := hcs
    have hlm : len ≤ m := by rw [hmm]; simp; exact hl
    have each : ∀ i, i < len → ∃ t : FB, W.cell? (x.add (i * 2)) = some (.string t.1) ∧ W.cell? (x.add (i * 2 + 1)) = some (.string t.2) ∧ t.1.size ≤ maxLen ∧ t.2.size ≤ maxLen := by
      intro i hi
      obtain ⟨h0, h1, h2, h3⟩ := hx i (by omega)
      obtain ⟨b, e0, _, hbz⟩ := DataW.trod_string Tryd.underlying9 h2
      obtain ⟨s, e1, _, hs⟩ := DataW.trod_string Tryd.underlying9 h3
      have e0' : V0 i = .string b := by simpa using e0
      have e1' : V1 i = .string s := by simpa using e1
      exact ⟨(b, s), by rw [h0, e0'], by rw [h1, e1'], hbz, hs⟩
    obtain ⟨q, hq⟩ := Deep.choose_lt each
    refine ⟨(List.range len).map q, by simp, Nat.le_trans hl hm, fun t ht => ?_, fun hne => ?_⟩
    · obtain ⟨i, hi, rfl⟩ := List.mem_map.1 ht
      exact (hq i (List.mem_range.1 hi)).2.2
    · have hp : 0 < len := by
        rcases Nat.eq_zero_or_pos len with h | h
        · subst h; simp at hne
        · exact h
      obtain ⟨b, off, spot⟩ := x
      have hc := (hq 0 hp).1
      have hspot : spot = none := by simpa [Addr.add] using World.cell?_spot hc
      subst hspot
      refine ⟨b, off, rfl, ?_, fun i hi => ?_⟩
      · have := World.block_lt_of_cell? W _ hc
        simpa [Addr.add] using this
      · have hi' : i < len := by simpa using hi
        obtain ⟨h0, h1, _⟩ := hq i hi'
        have e : ∀ j, (⟨b, off, none⟩ : Addr).add j = ⟨b, off + j, none⟩ := fun j => by unfold Addr.add; split <;> simp_all
        rw [e] at h0 h1
        simp only [List.getElem_map, List.getElem_range]
        exact ⟨h0, by rw [Nat.add_assoc]; exact h1⟩
/-- rows of one's own of unlike types don't share a block -/
theorem own_apart {T1 T2 B1 B2 k1 k2 n1 n2 : Nat} {v1 v2 : Value} {x1 x2 : List Value} {w : World} (h1 : w.ownsRow B1 T1 k1 v1 n1 x1) (h2 : w.ownsRow B2 T2 k2 v2 n2 x2) (hT : T1 ≠ T2) : v2.ownBlock = none ∨ v2.ownBlock ≠ v1.ownBlock := by
  rcases h2.2 with ⟨rfl, _⟩ | ⟨g, cap, cur, rfl, _, hg, _⟩
  · exact .inl rfl
  · refine .inr fun e => ?_
    rcases h1.2 with ⟨rfl, _⟩ | ⟨g', cap', cur', rfl, _, hg', _⟩
    · cases e
    · have e' : g = g' := by injection e
      subst e'
      rw [hg] at hg'
      injection hg' with h
      injection h with _ h _
      exact hT h.symm
/-- a row of pairs of one's own -/
def OwF (T : TypeId) (B : Nat) (v : Value) (fs : List FB) (w : World) : Prop := w.ownsRow B T 2 v fs.length (fC fs)
theorem OwF.go {T : TypeId} {B : Nat} {v : Value} {fs : List FB} {w w' : World} (h : OwF T B v fs w) (hb : Below w.heap.size w w') : OwF T B v fs w' :=
  World.ownsRow.kept h (row := none) ⟨hb.os, hb.tape, hb.output, hb.size, fun k hk _ => hb.block k hk⟩ (by cases hv : v.ownBlock <;> simp)
theorem own_lenF {T : TypeId} {B k n : Nat} {v : Value} {xs : List Value} {w : World} (h : w.ownsRow B T k v n xs) : ∃ ao cap, v = .slice ao n cap := by
  rcases h.2 with ⟨rfl, h0⟩ | ⟨g, cap, cur, rfl, _⟩
  · exact ⟨_, 0, by rw [h0]⟩
  · exact ⟨_, _, rfl⟩
theorem OwF.rd {T : TypeId} {B : Nat} {v : Value} {fs : List FB} {w : World} (h : OwF T B v fs w) : RdF v fs w := by
  rcases h.2 with ⟨rfl, h0⟩ | ⟨g, cap, cur, rfl, hB, hg, hc, hcm, hsz, htk⟩
  · exact ⟨none, 0, by rw [h0], fun h => by omega⟩
  · refine ⟨_, cap, rfl, fun _ => ⟨g, 0, rfl, (Array.getElem?_eq_some_iff.1 hg).1, fun i hi => ?_⟩⟩
    rw [cell_of_row _ _ _ _ _ _ hg, cell_of_row _ _ _ _ _ _ hg, Nat.zero_add]
    have hp := fC_at fs i hi
    rw [← htk, List.getElem?_take_of_lt (by omega), List.getElem?_take_of_lt (by omega), Array.getElem?_toList, Array.getElem?_toList] at hp
    exact hp
theorem fC_snoc (fs : List FB) (x : FB) : fC (fs ++ [x]) = fC fs ++ [.string x.1, .string x.2] := by unfold fC; rw [List.flatMap_append, List.flatMap_singleton]; rfl
/-- a pair, cut -/
def cutF (x : FB) : FB := (Jt.mkS (x.1.data.toList.take 20), Jt.mkS (x.2.data.toList.take 30))
def prK (ts : List FB) (j : Nat) : List FB := (ts.take j).map cutF
theorem prK_len (ts : List FB) {j : Nat} (h : j ≤ 6) : (prK ts j).length ≤ 6 := by unfold prK; rw [List.length_map, List.length_take]; omega
theorem prK_snoc {ts : List FB} {j : Nat} (hj : j < ts.length) : prK ts (j + 1) = prK ts j ++ [cutF ts[j]] := by
  unfold prK; rw [List.take_succ_eq_append_getElem hj, List.map_append]; rfl
theorem cutF_short (x : FB) : (cutF x).1.size ≤ 20 ∧ (cutF x).2.size ≤ 30 := by
  unfold cutF; rw [Jt.size_mkS, Jt.size_mkS, List.length_take, List.length_take]; omega
theorem prK_short {ts : List FB} {j : Nat} {x : FB} (h : x ∈ prK ts j) : x.1.size ≤ 20 ∧ x.2.size ≤ 30 := by
  obtain ⟨y, _, rfl⟩ := List.mem_map.1 h
  exact cutF_short y
theorem cut20 (s : ByteArray) (h : 20 < s.size) : s.extract 0 20 = Jt.mkS (s.data.toList.take 20) := Jt.mkS_of (by rw [Lib.extract_data]; simp)
theorem cut20n (s : ByteArray) (h : ¬ 20 < s.size) : s = Jt.mkS (s.data.toList.take 20) := Jt.mkS_of (by rw [List.take_of_length_le (by rw [← Lib.size_eq]; omega)])
theorem cut30 (s : ByteArray) (h : 30 < s.size) : s.extract 0 30 = Jt.mkS (s.data.toList.take 30) := Jt.mkS_of (by rw [Lib.extract_data]; simp)
theorem cut30n (s : ByteArray) (h : ¬ 30 < s.size) : s = Jt.mkS (s.data.toList.take 30) := Jt.mkS_of (by rw [List.take_of_length_le (by rw [← Lib.size_eq]; omega)])
theorem infoR : (Tryd.prog.info? 56).map (fun i => (i.zero, i.size, i.bytes)) = some (some (.agg #[.string ⟨#[]⟩, .string ⟨#[]⟩]), 2, 32) := by kernel_rfl
end Go.Proofs.YtbimncnicioagaaDoor.Lb
namespace Go.Proofs.YtbimncnicioagaaDoor.Lb
open Go.RowKit Ch Jt
set_option linter.unusedSimpArgs false
set_option linter.unusedVariables false

theorem two_cell {w : World} {g : Nat} {a b : ByteArray} {T : TypeId} (h : w.heap[g]? = some (.cells #[.string a, .string b] T (0, 0))) : ∀ (j : Nat) (u : Value), [Value.string a, .string b][j]? = some u → w.cell? ((⟨g, 0, none⟩ : Addr).add j) = some u := fun j u hu => by
  have hj : j < 2 := by
    rcases Nat.lt_or_ge j 2 with g | g
    · exact g
    · rw [List.getElem?_eq_none (by show 2 ≤ j; exact g)] at hu; cases hu
  have ea : (⟨g, 0, none⟩ : Addr).add j = ⟨g, j, none⟩ := by unfold Addr.add; split <;> simp_all
  rw [ea, cell_of_row _ _ j _ _ _ h]
  match j, hj with
  | 0, _ => exact hu
  | 1, _ => exact hu
theorem two_ok {a b : ByteArray} : ∀ u ∈ [Value.string a, .string b], u.oneCell' = true := fun u h => by simp at h; rcases h with rfl | rfl <;> rfl
theorem new_two (wr : World) (a b : Value) (T U : TypeId) : ∃ W1, W1 = (wr.alloc (.cells #[a, b] T)).alloc (.cells #[a, b] U) ∧ W1.heap[wr.heap.size + 1]? = some (.cells #[a, b] U (0, 0)) ∧ W1.heap[wr.heap.size]? = some (.cells #[a, b] T (0, 0)) ∧ Below wr.heap.size wr W1 := by
  refine ⟨_, rfl, ?_, ?_, ((Below.refl _ _).alloc (Nat.le_refl _) _).alloc (by simp) _⟩
  · have := heap_alloc_new (wr.alloc (.cells #[a, b] T)) (.cells #[a, b] U)
    simpa using this
  · have hb := (Below.refl (wr.heap.size + 1) (wr.alloc (.cells #[a, b] T))).alloc (by simp) (.cells #[a, b] U)
    exact (hb.block _ (by omega)).trans (heap_alloc_new wr _)
set_option maxRecDepth 100000 in
set_option maxHeartbeats 8000000 in
theorem Pairs_c (a : Option Addr) (cap : Nat) (ts : List FB) (w : World) (hP : IsPrs w a ts.length ts) :
    Calls Tryd.prog 20 #[.slice a ts.length cap] w fun e w' => ∃ vo vw, e = .returned (.tuple #[vo, vw]) ∧ OwF 58 w.heap.size vo (prK ts 6) w' ∧ OwF 56 w.heap.size vw (prK ts 6) w' ∧ Below w.heap.size w w' := by
  obtain ⟨_, hm, hz, hat⟩ := hP
  have HZ := Lib.hid hz
  have HA := Lib.hid hat
  clear hz hat
  unfold maxLen at hm
  obtain ⟨ip, hip, hpa, hpb, hpc⟩ := info_parts info2
  obtain ⟨ir, hir, hra, hrb, hrc⟩ := info_parts infoR
  go_enter Tryd.func20, Tryd.ntmps20
  go_wp2
  go_loopw [4, 5, 10] (fun ov wv iv wr => ∃ j : Nat, j ≤ ts.length ∧ j ≤ 6 ∧ iv = .int .i64 j ∧ OwF 58 w.heap.size ov (prK ts j) wr ∧ OwF 56 w.heap.size wv (prK ts j) wr ∧ Below w.heap.size w wr) (fun _ _ iv _ => ts.length - (intOf iv).toNat)
  case atStart => exact ⟨0, by omega, by omega, rfl, World.ownsRow_nil _ _ _ _, World.ownsRow_nil _ _ _ _, Below.refl _ _⟩
  case round =>
    obtain ⟨j, hj, hj6, rfl, hownO, hownW, hB⟩ := hrel
    have HOO := Lib.hid hownO
    have HOW := Lib.hid hownW
    have HB := Lib.hid hB
    obtain ⟨aoo, cpo, hvo⟩ := own_lenF hownO
    obtain ⟨aow, cpw, hvw⟩ := own_lenF hownW
    subst hvo hvw
    have hpq := prK_len ts hj6
    by_cases hlt : j < ts.length
    · obtain ⟨g, off, rfl, hg, hat⟩ := HA.out (by intro h; rw [h] at hlt; simp at hlt)
      have p0 := (hB.cell (p := ⟨g, off + j * 2, none⟩) hg).trans (hat j hlt).1
      have p1 := (hB.cell (p := ⟨g, off + j * 2 + 1, none⟩) hg).trans (hat j hlt).2
      obtain ⟨hsz1, hsz2⟩ := HZ.out _ (List.getElem_mem hlt)
      have hj0 : (0 : Int) ≤ (j : Int) := by omega
      have hjl : (j : Int) < (ts.length : Int) := by omega
      have hgn : g ≠ wr.heap.size := by have := hB.size; omega
      unfold maxLen at hsz1 hsz2
      by_cases h6 : j < 6
      · have h6' : ¬ (6 : Int) ≤ (j : Int) := by omega
        have HK := Lib.hid (prK_snoc hlt)
        unfold cutF at HK
        have X1 := cut20 ts[j].1
        have X2 := cut20n ts[j].1
        have Y1 := cut30 ts[j].2
        have Y2 := cut30n ts[j].2
        clear hownO hownW hB hat
        by_cases hx : 20 < ts[j].1.size
        · by_cases hy : 30 < ts[j].2.size
          · have HX := Lib.hid (X1 hx)
            have HY := Lib.hid (Y1 hy)
            clear X1 X2 Y1 Y2
            revert p0 p1 hsz1 hsz2 hx hy HX HY HK
            generalize ts[j].1 = x
            generalize ts[j].2 = y
            intro p0 p1 hsz1 hsz2 HK hx hy HX HY
            have hx' : (20 : Int) < (x.size : Int) := by omega
            have hy' : (30 : Int) < (y.size : Int) := by omega
            have HK2 : Hid (prK ts (j + 1) = prK ts j ++ [((x.extract 0 20), (y.extract 0 30))]) := by show _ = _; rw [HK.out, ← HX.out, ← HY.out]
            obtain ⟨W1, hW1, hk1, hk0, hb1⟩ := new_two wr (.string (x.extract 0 20)) (.string (y.extract 0 30)) 56 58
            have HW1 := Lib.hid hW1
            have HKX := Lib.hid hk0
            have hl1 : wr.heap.size < W1.heap.size := (Array.getElem?_eq_some_iff.1 hk0).1
            have HB1 : Hid (Below w.heap.size w W1) := HB.out.trans (hb1.mono HB.out.size)
            have IO := Lib.hid (HOO.out.go hb1)
            have IW := Lib.hid (HOW.out.go hb1)
            have DC := Lib.hid (two_cell hk1)
            have D3 : Hid ((prK ts j).length + 1 ≤ maxLen) := by show _ ≤ _; unfold maxLen; omega
            have D4 : Hid (((prK ts j).length + 1) * 32 ≤ 140737488355328) := by show _ ≤ _; omega
            have E1 : Hid (w.heap.size ≤ W1.heap.size) := HB1.out.size
            have LO : Hid (∀ k, (Value.slice aoo (prK ts j).length cpo).ownBlock = some k → w.heap.size ≤ k ∧ k < wr.heap.size) := HOO.out.lt
            have LW : Hid (∀ k, (Value.slice aow (prK ts j).length cpw).ownBlock = some k → w.heap.size ≤ k ∧ k < wr.heap.size) := HOW.out.lt
            clear hW1 hk1 hk0 hb1 HX HY HK
            go_wp2_with (at_builtin; rw [← HW1.out]; refine wpList_append_own _ rfl _ _ 25 rfl w.heap.size 58 ip _ 2 32 Tryd.underlying25 hip hpa hpb hpc rfl (by decide) _ _ _ rfl IO.out ⟨wr.heap.size + 1, 0, none⟩ 1 1 [.string (x.extract 0 20), .string (y.extract 0 30)] rfl rfl DC.out two_ok D3.out D4.out E1.out ?_)
            intro v1 V1 hown1 hgrow1 _
            have HK3 : Hid (V1.heap[wr.heap.size]? = some (.cells #[.string (x.extract 0 20), .string (y.extract 0 30)] 56 (0, 0))) := (hgrow1.block _ hl1 (fun e => by have := LO.out _ e.symm; omega)).trans HKX.out
            have HBV : Hid (Below w.heap.size w V1) := HB1.out.grown hgrow1 HB1.out.size (fun k hk => (LO.out k hk).1)
            have JW : Hid (OwF 56 w.heap.size (.slice aow (prK ts j).length cpw) (prK ts j) V1) := World.ownsRow.kept IW.out hgrow1 (own_apart IO.out IW.out (by decide))
            have JO : Hid (OwF 58 w.heap.size v1 (prK ts (j + 1)) V1) := by
              show OwF _ _ _ _ _
              rw [HK2.out]; unfold OwF; rw [fC_snoc, List.length_append]
              exact hown1
            obtain ⟨ao1, cp1, hv1⟩ := own_lenF hown1
            subst hv1
            clear hown1 hgrow1 HKX
            obtain ⟨e0, e1⟩ := cell2 HK3.out
            obtain ⟨W2, hW2, hk2, hb2⟩ : ∃ W2, W2 = V1.alloc (.cells #[.string (x.extract 0 20), .string (y.extract 0 30)] 56) ∧ W2.heap[V1.heap.size]? = some (.cells #[.string (x.extract 0 20), .string (y.extract 0 30)] 56 (0, 0)) ∧ Below V1.heap.size V1 W2 := ⟨_, rfl, heap_alloc_new V1 _, (Below.refl _ _).alloc (Nat.le_refl _) _⟩
            have HW2 := Lib.hid hW2
            have HB2 : Hid (Below w.heap.size w W2) := HBV.out.trans (hb2.mono HBV.out.size)
            have KO := Lib.hid (JO.out.go hb2)
            have KW := Lib.hid (JW.out.go hb2)
            have DC2 := Lib.hid (two_cell hk2)
            have E2 : Hid (w.heap.size ≤ W2.heap.size) := HB2.out.size
            clear hW2 hk2 hb2
            go_wp2_with (at_builtin; rw [← HW2.out]; refine wpList_append_own _ rfl _ _ 22 rfl w.heap.size 56 ir _ 2 32 Tryd.underlying22 hir hra hrb hrc rfl (by decide) _ _ _ rfl KW.out ⟨V1.heap.size, 0, none⟩ 1 1 [.string (x.extract 0 20), .string (y.extract 0 30)] rfl rfl DC2.out two_ok D3.out D4.out E2.out ?_)
            intro v2 V2 hown2 hgrow2 _
            have HBZ : Hid (Below w.heap.size w V2) := HB2.out.grown hgrow2 HB2.out.size (fun k hk => (LW.out k hk).1)
            have LO2 : Hid (OwF 58 w.heap.size (.slice ao1 ((prK ts j).length + 1) cp1) (prK ts (j + 1)) V2) := World.ownsRow.kept KO.out hgrow2 (own_apart KW.out KO.out (by decide))
            have LW2 : Hid (OwF 56 w.heap.size v2 (prK ts (j + 1)) V2) := by
              show OwF _ _ _ _ _
              rw [HK2.out]; unfold OwF; rw [fC_snoc, List.length_append]
              exact hown2
            clear hown2 hgrow2 e0 e1
            go_wp2
            go_roundw
            case rel => exact ⟨j + 1, by omega, by omega, by go_num, LO2.out, LW2.out, HBZ.out⟩
            case measure => simp [intOf]; omega
          · have HX := Lib.hid (X1 hx)
            have HY := Lib.hid (Y2 hy)
            clear X1 X2 Y1 Y2
            revert p0 p1 hsz1 hsz2 hx hy HX HY HK
            generalize ts[j].1 = x
            generalize ts[j].2 = y
            intro p0 p1 hsz1 hsz2 HK hx hy HX HY
            have hx' : (20 : Int) < (x.size : Int) := by omega
            have hy' : ¬ (30 : Int) < (y.size : Int) := by omega
            have HK2 : Hid (prK ts (j + 1) = prK ts j ++ [((x.extract 0 20), y)]) := by show _ = _; rw [HK.out, ← HX.out, ← HY.out]
            obtain ⟨W1, hW1, hk1, hk0, hb1⟩ := new_two wr (.string (x.extract 0 20)) (.string y) 56 58
            have HW1 := Lib.hid hW1
            have HKX := Lib.hid hk0
            have hl1 : wr.heap.size < W1.heap.size := (Array.getElem?_eq_some_iff.1 hk0).1
            have HB1 : Hid (Below w.heap.size w W1) := HB.out.trans (hb1.mono HB.out.size)
            have IO := Lib.hid (HOO.out.go hb1)
            have IW := Lib.hid (HOW.out.go hb1)
            have DC := Lib.hid (two_cell hk1)
            have D3 : Hid ((prK ts j).length + 1 ≤ maxLen) := by show _ ≤ _; unfold maxLen; omega
            have D4 : Hid (((prK ts j).length + 1) * 32 ≤ 140737488355328) := by show _ ≤ _; omega
            have E1 : Hid (w.heap.size ≤ W1.heap.size) := HB1.out.size
            have LO : Hid (∀ k, (Value.slice aoo (prK ts j).length cpo).ownBlock = some k → w.heap.size ≤ k ∧ k < wr.heap.size) := HOO.out.lt
            have LW : Hid (∀ k, (Value.slice aow (prK ts j).length cpw).ownBlock = some k → w.heap.size ≤ k ∧ k < wr.heap.size) := HOW.out.lt
            clear hW1 hk1 hk0 hb1 HX HY HK
            go_wp2_with (at_builtin; rw [← HW1.out]; refine wpList_append_own _ rfl _ _ 25 rfl w.heap.size 58 ip _ 2 32 Tryd.underlying25 hip hpa hpb hpc rfl (by decide) _ _ _ rfl IO.out ⟨wr.heap.size + 1, 0, none⟩ 1 1 [.string (x.extract 0 20), .string y] rfl rfl DC.out two_ok D3.out D4.out E1.out ?_)
            intro v1 V1 hown1 hgrow1 _
            have HK3 : Hid (V1.heap[wr.heap.size]? = some (.cells #[.string (x.extract 0 20), .string y] 56 (0, 0))) := (hgrow1.block _ hl1 (fun e => by have := LO.out _ e.symm; omega)).trans HKX.out
            have HBV : Hid (Below w.heap.size w V1) := HB1.out.grown hgrow1 HB1.out.size (fun k hk => (LO.out k hk).1)
            have JW : Hid (OwF 56 w.heap.size (.slice aow (prK ts j).length cpw) (prK ts j) V1) := World.ownsRow.kept IW.out hgrow1 (own_apart IO.out IW.out (by decide))
            have JO : Hid (OwF 58 w.heap.size v1 (prK ts (j + 1)) V1) := by
              show OwF _ _ _ _ _
              rw [HK2.out]; unfold OwF; rw [fC_snoc, List.length_append]
              exact hown1
            obtain ⟨ao1, cp1, hv1⟩ := own_lenF hown1
            subst hv1
            clear hown1 hgrow1 HKX
            obtain ⟨e0, e1⟩ := cell2 HK3.out
            obtain ⟨W2, hW2, hk2, hb2⟩ : ∃ W2, W2 = V1.alloc (.cells #[.string (x.extract 0 20), .string y] 56) ∧ W2.heap[V1.heap.size]? = some (.cells #[.string (x.extract 0 20), .string y] 56 (0, 0)) ∧ Below V1.heap.size V1 W2 := ⟨_, rfl, heap_alloc_new V1 _, (Below.refl _ _).alloc (Nat.le_refl _) _⟩
            have HW2 := Lib.hid hW2
            have HB2 : Hid (Below w.heap.size w W2) := HBV.out.trans (hb2.mono HBV.out.size)
            have KO := Lib.hid (JO.out.go hb2)
            have KW := Lib.hid (JW.out.go hb2)
            have DC2 := Lib.hid (two_cell hk2)
            have E2 : Hid (w.heap.size ≤ W2.heap.size) := HB2.out.size
            clear hW2 hk2 hb2
            go_wp2_with (at_builtin; rw [← HW2.out]; refine wpList_append_own _ rfl _ _ 22 rfl w.heap.size 56 ir _ 2 32 Tryd.underlying22 hir hra hrb hrc rfl (by decide) _ _ _ rfl KW.out ⟨V1.heap.size, 0, none⟩ 1 1 [.string (x.extract 0 20), .string y] rfl rfl DC2.out two_ok D3.out D4.out E2.out ?_)
            intro v2 V2 hown2 hgrow2 _
            have HBZ : Hid (Below w.heap.size w V2) := HB2.out.grown hgrow2 HB2.out.size (fun k hk => (LW.out k hk).1)
            have LO2 : Hid (OwF 58 w.heap.size (.slice ao1 ((prK ts j).length + 1) cp1) (prK ts (j + 1)) V2) := World.ownsRow.kept KO.out hgrow2 (own_apart KW.out KO.out (by decide))
            have LW2 : Hid (OwF 56 w.heap.size v2 (prK ts (j + 1)) V2) := by
              show OwF _ _ _ _ _
              rw [HK2.out]; unfold OwF; rw [fC_snoc, List.length_append]
              exact hown2
            clear hown2 hgrow2 e0 e1
            go_wp2
            go_roundw
            case rel => exact ⟨j + 1, by omega, by omega, by go_num, LO2.out, LW2.out, HBZ.out⟩
            case measure => simp [intOf]; omega
        · by_cases hy : 30 < ts[j].2.size
          · have HX := Lib.hid (X2 hx)
            have HY := Lib.hid (Y1 hy)
            clear X1 X2 Y1 Y2
            revert p0 p1 hsz1 hsz2 hx hy HX HY HK
            generalize ts[j].1 = x
            generalize ts[j].2 = y
            intro p0 p1 hsz1 hsz2 HK hx hy HX HY
            have hx' : ¬ (20 : Int) < (x.size : Int) := by omega
            have hy' : (30 : Int) < (y.size : Int) := by omega
            have HK2 : Hid (prK ts (j + 1) = prK ts j ++ [(x, (y.extract 0 30))]) := by show _ = _; rw [HK.out, ← HX.out, ← HY.out]
            obtain ⟨W1, hW1, hk1, hk0, hb1⟩ := new_two wr (.string x) (.string (y.extract 0 30)) 56 58
            have HW1 := Lib.hid hW1
            have HKX := Lib.hid hk0
            have hl1 : wr.heap.size < W1.heap.size := (Array.getElem?_eq_some_iff.1 hk0).1
            have HB1 : Hid (Below w.heap.size w W1) := HB.out.trans (hb1.mono HB.out.size)
            have IO := Lib.hid (HOO.out.go hb1)
            have IW := Lib.hid (HOW.out.go hb1)
            have DC := Lib.hid (two_cell hk1)
            have D3 : Hid ((prK ts j).length + 1 ≤ maxLen) := by show _ ≤ _; unfold maxLen; omega
            have D4 : Hid (((prK ts j).length + 1) * 32 ≤ 140737488355328) := by show _ ≤ _; omega
            have E1 : Hid (w.heap.size ≤ W1.heap.size) := HB1.out.size
            have LO : Hid (∀ k, (Value.slice aoo (prK ts j).length cpo).ownBlock = some k → w.heap.size ≤ k ∧ k < wr.heap.size) := HOO.out.lt
            have LW : Hid (∀ k, (Value.slice aow (prK ts j).length cpw).ownBlock = some k → w.heap.size ≤ k ∧ k < wr.heap.size) := HOW.out.lt
            clear hW1 hk1 hk0 hb1 HX HY HK
            go_wp2_with (at_builtin; rw [← HW1.out]; refine wpList_append_own _ rfl _ _ 25 rfl w.heap.size 58 ip _ 2 32 Tryd.underlying25 hip hpa hpb hpc rfl (by decide) _ _ _ rfl IO.out ⟨wr.heap.size + 1, 0, none⟩ 1 1 [.string x, .string (y.extract 0 30)] rfl rfl DC.out two_ok D3.out D4.out E1.out ?_)
            intro v1 V1 hown1 hgrow1 _
            have HK3 : Hid (V1.heap[wr.heap.size]? = some (.cells #[.string x, .string (y.extract 0 30)] 56 (0, 0))) := (hgrow1.block _ hl1 (fun e => by have := LO.out _ e.symm; omega)).trans HKX.out
            have HBV : Hid (Below w.heap.size w V1) := HB1.out.grown hgrow1 HB1.out.size (fun k hk => (LO.out k hk).1)
            have JW : Hid (OwF 56 w.heap.size (.slice aow (prK ts j).length cpw) (prK ts j) V1) := World.ownsRow.kept IW.out hgrow1 (own_apart IO.out IW.out (by decide))
            have JO : Hid (OwF 58 w.heap.size v1 (prK ts (j + 1)) V1) := by
              show OwF _ _ _ _ _
              rw [HK2.out]; unfold OwF; rw [fC_snoc, List.length_append]
              exact hown1
            obtain ⟨ao1, cp1, hv1⟩ := own_lenF hown1
            subst hv1
            clear hown1 hgrow1 HKX
            obtain ⟨e0, e1⟩ := cell2 HK3.out
            obtain ⟨W2, hW2, hk2, hb2⟩ : ∃ W2, W2 = V1.alloc (.cells #[.string x, .string (y.extract 0 30)] 56) ∧ W2.heap[V1.heap.size]? = some (.cells #[.string x, .string (y.extract 0 30)] 56 (0, 0)) ∧ Below V1.heap.size V1 W2 := ⟨_, rfl, heap_alloc_new V1 _, (Below.refl _ _).alloc (Nat.le_refl _) _⟩
            have HW2 := Lib.hid hW2
            have HB2 : Hid (Below w.heap.size w W2) := HBV.out.trans (hb2.mono HBV.out.size)
            have KO := Lib.hid (JO.out.go hb2)
            have KW := Lib.hid (JW.out.go hb2)
            have DC2 := Lib.hid (two_cell hk2)
            have E2 : Hid (w.heap.size ≤ W2.heap.size) := HB2.out.size
            clear hW2 hk2 hb2
            go_wp2_with (at_builtin; rw [← HW2.out]; refine wpList_append_own _ rfl _ _ 22 rfl w.heap.size 56 ir _ 2 32 Tryd.underlying22 hir hra hrb hrc rfl (by decide) _ _ _ rfl KW.out ⟨V1.heap.size, 0, none⟩ 1 1 [.string x, .string (y.extract 0 30)] rfl rfl DC2.out two_ok D3.out D4.out E2.out ?_)
            intro v2 V2 hown2 hgrow2 _
            have HBZ : Hid (Below w.heap.size w V2) := HB2.out.grown hgrow2 HB2.out.size (fun k hk => (LW.out k hk).1)
            have LO2 : Hid (OwF 58 w.heap.size (.slice ao1 ((prK ts j).length + 1) cp1) (prK ts (j + 1)) V2) := World.ownsRow.kept KO.out hgrow2 (own_apart KW.out KO.out (by decide))
            have LW2 : Hid (OwF 56 w.heap.size v2 (prK ts (j + 1)) V2) := by
              show OwF _ _ _ _ _
              rw [HK2.out]; unfold OwF; rw [fC_snoc, List.length_append]
              exact hown2
            clear hown2 hgrow2 e0 e1
            go_wp2
            go_roundw
            case rel => exact ⟨j + 1, by omega, by omega, by go_num, LO2.out, LW2.out, HBZ.out⟩
            case measure => simp [intOf]; omega
          · have HX := Lib.hid (X2 hx)
            have HY := Lib.hid (Y2 hy)
            clear X1 X2 Y1 Y2
            revert p0 p1 hsz1 hsz2 hx hy HX HY HK
            generalize ts[j].1 = x
            generalize ts[j].2 = y
            intro p0 p1 hsz1 hsz2 HK hx hy HX HY
            have hx' : ¬ (20 : Int) < (x.size : Int) := by omega
            have hy' : ¬ (30 : Int) < (y.size : Int) := by omega
            have HK2 : Hid (prK ts (j + 1) = prK ts j ++ [(x, y)]) := by show _ = _; rw [HK.out, ← HX.out, ← HY.out]
            obtain ⟨W1, hW1, hk1, hk0, hb1⟩ := new_two wr (.string x) (.string y) 56 58
            have HW1 := Lib.hid hW1
            have HKX := Lib.hid hk0
            have hl1 : wr.heap.size < W1.heap.size := (Array.getElem?_eq_some_iff.1 hk0).1
            have HB1 : Hid (Below w.heap.size w W1) := HB.out.trans (hb1.mono HB.out.size)
            have IO := Lib.hid (HOO.out.go hb1)
            have IW := Lib.hid (HOW.out.go hb1)
            have DC := Lib.hid (two_cell hk1)
            have D3 : Hid ((prK ts j).length + 1 ≤ maxLen) := by show _ ≤ _; unfold maxLen; omega
            have D4 : Hid (((prK ts j).length + 1) * 32 ≤ 140737488355328) := by show _ ≤ _; omega
            have E1 : Hid (w.heap.size ≤ W1.heap.size) := HB1.out.size
            have LO : Hid (∀ k, (Value.slice aoo (prK ts j).length cpo).ownBlock = some k → w.heap.size ≤ k ∧ k < wr.heap.size) := HOO.out.lt
            have LW : Hid (∀ k, (Value.slice aow (prK ts j).length cpw).ownBlock = some k → w.heap.size ≤ k ∧ k < wr.heap.size) := HOW.out.lt
            clear hW1 hk1 hk0 hb1 HX HY HK
            go_wp2_with (at_builtin; rw [← HW1.out]; refine wpList_append_own _ rfl _ _ 25 rfl w.heap.size 58 ip _ 2 32 Tryd.underlying25 hip hpa hpb hpc rfl (by decide) _ _ _ rfl IO.out ⟨wr.heap.size + 1, 0, none⟩ 1 1 [.string x, .string y] rfl rfl DC.out two_ok D3.out D4.out E1.out ?_)
            intro v1 V1 hown1 hgrow1 _
            have HK3 : Hid (V1.heap[wr.heap.size]? = some (.cells #[.string x, .string y] 56 (0, 0))) := (hgrow1.block _ hl1 (fun e => by have := LO.out _ e.symm; omega)).trans HKX.out
            have HBV : Hid (Below w.heap.size w V1) := HB1.out.grown hgrow1 HB1.out.size (fun k hk => (LO.out k hk).1)
            have JW : Hid (OwF 56 w.heap.size (.slice aow (prK ts j).length cpw) (prK ts j) V1) := World.ownsRow.kept IW.out hgrow1 (own_apart IO.out IW.out (by decide))
            have JO : Hid (OwF 58 w.heap.size v1 (prK ts (j + 1)) V1) := by
              show OwF _ _ _ _ _
              rw [HK2.out]; unfold OwF; rw [fC_snoc, List.length_append]
              exact hown1
            obtain ⟨ao1, cp1, hv1⟩ := own_lenF hown1
            subst hv1
            clear hown1 hgrow1 HKX
            obtain ⟨e0, e1⟩ := cell2 HK3.out
            obtain ⟨W2, hW2, hk2, hb2⟩ : ∃ W2, W2 = V1.alloc (.cells #[.string x, .string y] 56) ∧ W2.heap[V1.heap.size]? = some (.cells #[.string x, .string y] 56 (0, 0)) ∧ Below V1.heap.size V1 W2 := ⟨_, rfl, heap_alloc_new V1 _, (Below.refl _ _).alloc (Nat.le_refl _) _⟩
            have HW2 := Lib.hid hW2
            have HB2 : Hid (Below w.heap.size w W2) := HBV.out.trans (hb2.mono HBV.out.size)
            have KO := Lib.hid (JO.out.go hb2)
            have KW := Lib.hid (JW.out.go hb2)
            have DC2 := Lib.hid (two_cell hk2)
            have E2 : Hid (w.heap.size ≤ W2.heap.size) := HB2.out.size
            clear hW2 hk2 hb2
            go_wp2_with (at_builtin; rw [← HW2.out]; refine wpList_append_own _ rfl _ _ 22 rfl w.heap.size 56 ir _ 2 32 Tryd.underlying22 hir hra hrb hrc rfl (by decide) _ _ _ rfl KW.out ⟨V1.heap.size, 0, none⟩ 1 1 [.string x, .string y] rfl rfl DC2.out two_ok D3.out D4.out E2.out ?_)
            intro v2 V2 hown2 hgrow2 _
            have HBZ : Hid (Below w.heap.size w V2) := HB2.out.grown hgrow2 HB2.out.size (fun k hk => (LW.out k hk).1)
            have LO2 : Hid (OwF 58 w.heap.size (.slice ao1 ((prK ts j).length + 1) cp1) (prK ts (j + 1)) V2) := World.ownsRow.kept KO.out hgrow2 (own_apart KW.out KO.out (by decide))
            have LW2 : Hid (OwF 56 w.heap.size v2 (prK ts (j + 1)) V2) := by
              show OwF _ _ _ _ _
              rw [HK2.out]; unfold OwF; rw [fC_snoc, List.length_append]
              exact hown2
            clear hown2 hgrow2 e0 e1
            go_wp2
            go_roundw
            case rel => exact ⟨j + 1, by omega, by omega, by go_num, LO2.out, LW2.out, HBZ.out⟩
            case measure => simp [intOf]; omega
      · clear hownO hownW hB hat
        have hje : j = 6 := by omega
        subst hje
        revert p0 p1
        generalize ts[6].1 = x
        generalize ts[6].2 = y
        intro p0 p1
        have hba : Below wr.heap.size wr (wr.alloc (.cells #[.string x, .string y] 56)) := (Below.refl _ _).alloc (Nat.le_refl _) _
        have LO2 := Lib.hid (HOO.out.go hba)
        have LW2 := Lib.hid (HOW.out.go hba)
        have HBZ : Hid (Below w.heap.size w (wr.alloc (.cells #[.string x, .string y] 56))) := HB.out.trans (hba.mono HB.out.size)
        clear hba
        go_wp2
        go_ret2
        exact ⟨_, _, rfl, LO2.out, LW2.out, HBZ.out⟩
    · have hpe : prK ts j = prK ts 6 := by
        unfold prK
        rw [List.take_of_length_le (by omega), List.take_of_length_le (by omega)]
      clear hownO hownW hB
      rw [hpe] at HOO HOW ⊢
      go_wp2
      go_ret2
      exact ⟨_, _, rfl, HOO.out, HOW.out, HB.out⟩
end Go.Proofs.YtbimncnicioagaaDoor.Lb
namespace Go.Proofs.YtbimncnicioagaaDoor.Lb
open Go.RowKit Ch Jt
set_option linter.unusedSimpArgs false
set_option linter.unusedVariables false

def exF : List FB := [(⟨#[98]⟩, ⟨#[50]⟩), (⟨#[97]⟩, ⟨#[49]⟩)]
def exG : List FB := [(⟨#[97]⟩, ⟨#[49]⟩), (⟨#[98]⟩, ⟨#[50]⟩)]
theorem ex_bad : exF.any badB = false := by decide +kernel
theorem ex_onc : Onc exF := by decide +kernel
theorem ex_asc : Asc exG := by
  unfold Asc exG
  rw [List.pairwise_cons]
  refine ⟨fun y hy => ?_, by simp⟩
  rw [List.mem_singleton] at hy
  subst hy
  decide +kernel
theorem ex_perm : exG.Perm exF := List.Perm.swap _ _ _
theorem ex_one {gs : List FB} (hp : gs.Perm exF) (ha : Asc gs) : gs = exG := asc_one (hp.trans ex_perm.symm) ha ex_asc ((onc_iff hp).2 ex_onc)
theorem ex_txt : txtL exG = [123, 97, 61, 34, 49, 34, 44, 98, 61, 34, 50, 34, 125] := by decide +kernel
theorem ex_vld : ∀ x ∈ exG, vldB x.2.data.toList = true := by
  intro x hx
  rcases List.mem_cons.1 hx with rfl | hx
  · decide +kernel
  · rcases List.mem_cons.1 hx with rfl | hx
    · decide +kernel
    · cases hx
theorem ex_short : ∀ x ∈ exG, shortF x := by
  intro x hx
  rcases List.mem_cons.1 hx with rfl | hx
  · exact ⟨by decide, by decide⟩
  · rcases List.mem_cons.1 hx with rfl | hx
    · exact ⟨by decide, by decide⟩
    · cases hx
theorem ex_small : ∀ x ∈ exF, smallF x := by
  intro x hx
  rcases List.mem_cons.1 hx with rfl | hx
  · exact ⟨by decide, by decide⟩
  · rcases List.mem_cons.1 hx with rfl | hx
    · exact ⟨by decide, by decide⟩
    · cases hx
end Go.Proofs.YtbimncnicioagaaDoor.Lb
namespace Go.Proofs.YtbimncnicioagaaDoor.Lb
open Go.RowKit Ch Jt
set_option linter.unusedSimpArgs false
set_option linter.unusedVariables false

def leN (x y : FB) : Bool := !decide (cfN y x < 0)
/-- pairs by their names -/
def srtL (fs : List FB) : List FB := fs.mergeSort leN
theorem srt_perm (fs : List FB) : (srtL fs).Perm fs := List.mergeSort_perm _ _
theorem leN_iff (x y : FB) : leN x y = true ↔ ¬ cfN y x < 0 := by unfold leN; simp
theorem srt_asc (fs : List FB) : Asc (srtL fs) := by
  have h := List.pairwise_mergeSort (le := leN) (fun a b c h1 h2 => by
      rw [leN_iff] at *
      have := swoN.ntrans c b a (by unfold Go.Proofs.ltOf; rw [decide_eq_false_iff_not]; exact h2) (by unfold Go.Proofs.ltOf; rw [decide_eq_false_iff_not]; exact h1)
      unfold Go.Proofs.ltOf at this
      rw [decide_eq_false_iff_not] at this
      exact this) (fun a b => by
      by_cases h : cfN b a < 0
      · have : leN b a = true := by rw [leN_iff, cf_anti]; omega
        rw [this]; simp
      · have : leN a b = true := by rw [leN_iff]; exact h
        rw [this]; simp) fs
  exact h.imp fun h => (leN_iff _ _).1 h
theorem srt_one {fs gs : List FB} (hp : gs.Perm fs) (ha : Asc gs) (ho : Onc fs) : gs = srtL fs := asc_one (hp.trans (srt_perm fs).symm) ha (srt_asc fs) ((onc_iff hp).2 ho)
/-- the set, and how that went -/
def ofA (fs : List FB) : List FB := if fs.any badB = true then [] else if Onc fs then srtL fs else []
def ofZ (fs : List FB) : Int := if fs.any badB = true then 3 else if Onc fs then 0 else 10
theorem of_rev {fs hs : List FB} (hp : hs.Perm fs) : ofA hs = ofA fs ∧ ofZ hs = ofZ fs := by
  have h1 : hs.any badB = fs.any badB := by
    rw [Bool.eq_iff_iff, List.any_eq_true, List.any_eq_true]
    exact ⟨fun ⟨x, hx, h⟩ => ⟨x, hp.mem_iff.1 hx, h⟩, fun ⟨x, hx, h⟩ => ⟨x, hp.mem_iff.2 hx, h⟩⟩
  have h2 : Onc hs ↔ Onc fs := onc_iff hp
  unfold ofA ofZ
  rw [h1]
  by_cases hb : fs.any badB = true
  · simp [hb]
  · by_cases ho : Onc fs
    · have : srtL hs = srtL fs := srt_one ((srt_perm hs).trans hp) (srt_asc hs) ho
      simp [hb, ho, h2, this]
    · simp [hb, ho, h2]
theorem ofA_mem {fs : List FB} {x : FB} (h : x ∈ ofA fs) : x ∈ fs ∧ badB x = false := by
  unfold ofA at h
  by_cases hb : fs.any badB = true
  · rw [if_pos hb] at h; cases h
  · rw [if_neg hb] at h
    by_cases ho : Onc fs
    · rw [if_pos ho] at h
      have hx := (srt_perm fs).mem_iff.1 h
      refine ⟨hx, ?_⟩
      have hb2 : fs.any badB = false := by simpa using hb
      rw [List.any_eq_false] at hb2
      simpa using hb2 x hx
    · rw [if_neg ho] at h; cases h
theorem ofA_len (fs : List FB) : (ofA fs).length ≤ fs.length := by
  unfold ofA
  split
  · simp
  · split
    · rw [(srt_perm fs).length_eq]; exact Nat.le_refl _
    · simp
theorem bad_vld {x : FB} (h : badB x = false) : vldB x.2.data.toList = true ∧ namB x.1.data.toList = true ∧ valB x.2.data.toList = true := by
  unfold badB at h
  have h1 : namB x.1.data.toList = true := by cases hn : namB x.1.data.toList <;> simp_all
  have h2 : valB x.2.data.toList = true := by cases hn : valB x.2.data.toList <;> simp_all
  refine ⟨?_, h1, h2⟩
  unfold valB at h2
  simp only [Bool.and_eq_true] at h2
  exact h2.2
/-- both ways at once -/
theorem of_uni {fs : List FB} {w : World} {e : Ending} {w' : World} (h : OfQ fs w e w') : ∃ ao cap, Pl ao ∧ e = .returned (.tuple #[.agg #[.slice ao (ofA fs).length cap], .int .i64 (ofZ fs)]) ∧ RdF (.slice ao (ofA fs).length cap) (ofA fs) w' ∧ Below w.heap.size w w' := by
  obtain ⟨hb, h⟩ := h
  rcases h with ⟨h1, rfl⟩ | ⟨h1, h2, rfl⟩ | ⟨h1, h2, ao, cap, gs, hpl, rfl, hp, ha, hr⟩
  · have e1 : ofA fs = [] := by unfold ofA; rw [if_pos h1]
    have e2 : ofZ fs = 3 := by unfold ofZ; rw [if_pos h1]
    rw [e1, e2]
    exact ⟨none, 0, .inl rfl, rfl, ⟨none, 0, rfl, fun h => absurd h (Nat.lt_irrefl _)⟩, hb⟩
  · have e1 : ofA fs = [] := by unfold ofA; rw [if_neg (by rw [h1]; decide), if_neg h2]
    have e2 : ofZ fs = 10 := by unfold ofZ; rw [if_neg (by rw [h1]; decide), if_neg h2]
    rw [e1, e2]
    exact ⟨none, 0, .inl rfl, rfl, ⟨none, 0, rfl, fun h => absurd h (Nat.lt_irrefl _)⟩, hb⟩
  · have e1 : ofA fs = srtL fs := by unfold ofA; rw [if_neg (by rw [h1]; decide), if_pos h2]
    have e2 : ofZ fs = 0 := by unfold ofZ; rw [if_neg (by rw [h1]; decide), if_pos h2]
    obtain rfl := srt_one hp ha h2
    rw [e1, e2, (srt_perm fs).length_eq]
    exact ⟨ao, cap, hpl, rfl, hr, hb⟩
end Go.Proofs.YtbimncnicioagaaDoor.Lb

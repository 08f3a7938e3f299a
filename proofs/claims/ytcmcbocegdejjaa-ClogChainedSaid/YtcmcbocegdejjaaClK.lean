/- The document's log as it lies; its New, Above, Since; no other condition. -/
import Derived.Test.YtcmcbocegdejjaaClJ
import Derived.Deep.Cut
namespace Go.Proofs.Ytcmcbocegdejjaa.Cl
open Go.RowKit Go.Lib Go.Shelf Go.Sort
set_option linter.unusedSimpArgs false
set_option linter.unusedVariables false

abbrev obR (m : Int) (v : Value) (fl la : Int) : Obj := .cells #[v, .int .i64 m, .int .i64 fl, .int .i64 la] 34
/-- the document's log: its block d, its row's block gd, what it may hold, all that ever came, the floor, the last revision -/
structure IsR (B d : Nat) (gd : Option Nat) (m : Int) (all : List Ent) (fl la : Int) (W : World) : Prop where
  ex : ∃ v, W.heap[d]? = some (obR m v fl la) ∧ W.ownsRow B 53 4 v all.length (eC all) ∧ v.ownBlock = gd
  ne : gd ≠ some d
theorem IsR.lt {B d : Nat} {gd : Option Nat} {m : Int} {all : List Ent} {fl la : Int} {W : World} (h : IsR B d gd m all fl la W) : d < W.heap.size := by
  obtain ⟨v, hv, _⟩ := h.ex
  exact (Array.getElem?_eq_some_iff.1 hv).1
theorem IsR.row {B d : Nat} {gd : Option Nat} {m : Int} {all : List Ent} {fl la : Int} {W : World} (h : IsR B d gd m all fl la W) : ∀ g, gd = some g → B ≤ g ∧ g < W.heap.size := by
  obtain ⟨v, hv, ho, e⟩ := h.ex
  intro g hg
  exact World.ownsRow.lt ho g (e.trans hg)
theorem own_kept {T : TypeId} {B k n : Nat} {v : Value} {xs : List Value} {w W : World} (h : w.ownsRow B T k v n xs) (hb : ∀ g, v.ownBlock = some g → W.heap[g]? = w.heap[g]?) : W.ownsRow B T k v n xs := by
  refine ⟨h.1, ?_⟩
  rcases h.2 with h | ⟨g, cap, cur, rfl, e2, e3, e4⟩
  · exact .inl h
  · exact .inr ⟨g, cap, cur, rfl, e2, (hb g rfl).trans e3, e4⟩
theorem IsR.kept {B d : Nat} {gd : Option Nat} {m : Int} {all : List Ent} {fl la : Int} {w W : World} (h : IsR B d gd m all fl la w) (hd : W.heap[d]? = w.heap[d]?) (hb : ∀ g, gd = some g → W.heap[g]? = w.heap[g]?) : IsR B d gd m all fl la W := by
  obtain ⟨v, hv, ho, e⟩ := h.ex
  exact ⟨⟨v, hd.trans hv, own_kept ho (fun g hg => hb g (e.symm.trans hg)), e⟩, h.ne⟩
theorem IsR.go {B d : Nat} {gd : Option Nat} {m : Int} {all : List Ent} {fl la : Int} {w W : World} (h : IsR B d gd m all fl la w) (hb : Below w.heap.size w W) : IsR B d gd m all fl la W :=
  h.kept (hb.block _ h.lt) (fun g hg => hb.block _ (h.row g hg).2)
set_option maxRecDepth 100000 in
set_option maxHeartbeats 1000000 in
theorem New_r (m : Int) (w : World) : Calls Try.prog 8 #[.int .i64 m] w fun e w' => e = .returned (.pointer (some ⟨w.heap.size, 0, none⟩)) ∧ IsR w.heap.size w.heap.size none (max m 1) [] 0 0 w' ∧ Below w.heap.size w w' := by
  obtain ⟨W, hW, hk, hb⟩ := new4 w (.slice none 0 0) (.int .i64 (max m 1)) (.int .i64 0) (.int .i64 0) 34
  have HK := Lib.hid hk
  have HB := Lib.hid hb
  clear hk hb
  have HF : Hid (IsR w.heap.size w.heap.size none (max m 1) [] 0 0 W ∧ Below w.heap.size w W) := ⟨⟨⟨_, HK.out, World.ownsRow_nil _ _ _ _, rfl⟩, by simp⟩, HB.out⟩
  clear HK HB
  by_cases hm : m < 1
  · have e : max m 1 = 1 := by omega
    rw [e] at hW HF ⊢
    have HW := Lib.hid hW
    clear hW
    go_enter Try.func8, Try.ntmps8
    go_wp2
    rw [← HW.out]
    go_ret
    exact ⟨rfl, HF.out⟩
  · have e : max m 1 = m := by omega
    rw [e] at hW HF ⊢
    have HW := Lib.hid hW
    clear hW
    go_enter Try.func8, Try.ntmps8
    go_wp2
    rw [← HW.out]
    go_ret
    exact ⟨rfl, HF.out⟩
theorem abv_snoc {b : List Ent} {r : Int} {j : Nat} (hj : j < b.length) : abv (b.take (j + 1)) r = abv (b.take j) r ++ (if r < b[j].1 then [b[j]] else []) := by
  rw [List.take_succ_eq_append_getElem hj, abv_app]
  congr 1
  unfold abv
  by_cases h : r < b[j].1 <;> simp [h]
def AbQ (l : List Ent) (w : World) (e : Ending) (w' : World) : Prop := ∃ v, e = .returned v ∧ RdE v l w' ∧ Below w.heap.size w w'
set_option maxRecDepth 100000 in
set_option maxHeartbeats 8000000 in
theorem Above_c {B d : Nat} {gd : Option Nat} {m : Int} {b : List Ent} {fl la : Int} {w : World} (h : IsR B d gd m b fl la w) (rev : Int) (hm : b.length ≤ 1000000) :
    Calls Try.prog 13 #[.pointer (some ⟨d, 0, none⟩), .int .i64 rev] w (AbQ (abv b rev) w) := by
  obtain ⟨i0, hi, hz0, hz1, hz2⟩ := info_parts infoRE
  obtain ⟨v, hv, ho, _⟩ := h.ex
  obtain ⟨ao, cap, rfl⟩ := own_form ho
  have HR := Lib.hid (own_rd ho)
  obtain ⟨c0, c1, c2, c3⟩ := cells4 hv
  clear h hv ho
  go_enter Try.func13, Try.ntmps13
  go_wp2
  clear c0 c1 c2 c3
  go_loopw [5, 13] (fun tv iv wr => ∃ j : Nat, j ≤ b.length ∧ iv = .int .i64 j ∧ Hid (wr.ownsRow w.heap.size 53 4 tv (abv (b.take j) rev).length (eC (abv (b.take j) rev))) ∧ Hid (Below w.heap.size w wr)) (fun _ iv _ => b.length - (intOf iv).toNat)
  case atStart => exact ⟨0, by omega, rfl, World.ownsRow_nil _ _ _ _, Below.refl _ _⟩
  case round =>
    obtain ⟨j, hj, rfl, HO, HB⟩ := hrel
    obtain ⟨aot, capt, htv⟩ := own_form HO.out
    subst htv
    by_cases hlt : j < b.length
    · obtain ⟨g, o, hao, hg, hat⟩ := (HR.out.go HB.out).at (by omega)
      subst hao
      obtain ⟨p0, p1, p2, p3⟩ := cell4 hat hlt
      have hj0 : (0 : Int) ≤ (j : Int) := by omega
      have hjl : (j : Int) < (b.length : Int) := by omega
      have HTK := Lib.hid (abv_snoc (r := rev) hlt)
      have hfl : (abv (b.take j) rev).length ≤ j := Nat.le_trans (abv_len _ _) (by rw [List.length_take]; omega)
      obtain ⟨⟨x0, x1, x2, x3⟩, hx⟩ : ∃ x : Ent, b[j] = x := ⟨_, rfl⟩
      rw [hx] at p0 p1 p2 p3 HTK
      simp only at p0 p1 p2 p3
      generalize hT : abv (b.take j) rev = T at HO HTK hfl
      obtain ⟨W2, hW2, hk2, hb2⟩ := new4 wr (.int .i64 x0) (.string x1) (.string x2) (.bool x3) 53
      have HW2 := Lib.hid hW2
      obtain ⟨d0, d1, d2, d3⟩ := cells4 hk2
      have HB2 : Hid (Below w.heap.size w W2) := HB.out.trans (hb2.mono HB.out.size)
      have HO2 := Lib.hid (own_go HO.out hb2)
      have hgn : g ≠ wr.heap.size := by omega
      have hlw : wr.heap.size < W2.heap.size := (Array.getElem?_eq_some_iff.1 hk2).1
      clear hat hx hT hW2 hk2 hb2 HO HB
      by_cases hf : rev < x0
      · rw [if_pos hf] at HTK
        have D3 : Hid (T.length + 1 ≤ maxLen) := by show _ ≤ _; unfold maxLen; omega
        have D4 : Hid ((T.length + 1) * 48 ≤ 140737488355328) := by show _ ≤ _; omega
        obtain ⟨WB, hWB, hkB, hbB⟩ := new4 W2 (.int .i64 x0) (.string x1) (.string x2) (.bool x3) 53
        have HOB := Lib.hid (own_go HO2.out hbB)
        have HWB := Lib.hid hWB
        have HC : Hid (∀ i u, (encE (x0, x1, x2, x3))[i]? = some u → WB.cell? ((⟨W2.heap.size, 0, none⟩ : Addr).add i) = some u) := World.news_of_block (cs := #[.int .i64 x0, .string x1, .string x2, .bool x3]) hkB
        have HBB : Hid (Below w.heap.size w WB) := HB2.out.trans (hbB.mono HB2.out.size)
        have D5 : Hid (w.heap.size ≤ WB.heap.size) := HBB.out.size
        have DE := Lib.hid (encE_ok (x0, x1, x2, x3))
        clear hWB hkB hbB
        go_upto_region 6 with (fail)
        rw [← HW2.out]
        go_wp2_with (at_builtin; rw [← HWB.out]; refine wpList_append_own _ rfl _ _ 32 rfl w.heap.size 53 i0 _ 4 48 Try.underlying32 hi hz0 hz1 hz2 rfl (by decide) _ _ _ rfl HOB.out ⟨W2.heap.size, 0, none⟩ 1 1 (encE (x0, x1, x2, x3)) rfl rfl HC.out DE.out D3.out D4.out D5.out ?_)
        intro v4 V4 hown hgrow _
        have HBV : Hid (Below w.heap.size w V4) := HBB.out.grown hgrow HBB.out.size (fun q hq => (HOB.out.lt q hq).1)
        have HOV : Hid (V4.ownsRow w.heap.size 53 4 v4 (abv (b.take (j + 1)) rev).length (eC (abv (b.take (j + 1)) rev))) := by
          show World.ownsRow _ _ _ _ _ _ _
          rw [HTK.out, eC_snoc, List.length_append]
          exact hown
        obtain ⟨ap, cq, hv4⟩ := own_form hown
        subst hv4
        clear hown hgrow
        go_wp2
        go_roundw
        case rel => exact ⟨j + 1, by omega, by go_num, HOV, HBV⟩
        case measure => simp [intOf]; omega
      · rw [if_neg hf, List.append_nil] at HTK
        have HOV : Hid (W2.ownsRow w.heap.size 53 4 (.slice aot T.length capt) (abv (b.take (j + 1)) rev).length (eC (abv (b.take (j + 1)) rev))) := by
          show World.ownsRow _ _ _ _ _ _ _
          rw [HTK.out]
          exact HO2.out
        go_wp2
        rw [← HW2.out]
        go_roundw
        case rel => exact ⟨j + 1, by omega, by go_num, HOV, HB2⟩
        case measure => simp [intOf]; omega
    · have hjl : ¬ (j : Int) < (b.length : Int) := by omega
      have hjj : j = b.length := by omega
      rw [hjj, List.take_of_length_le (Nat.le_refl _)] at HO
      have HRD := Lib.hid (own_rd HO.out)
      rw [hjj, List.take_of_length_le (Nat.le_refl _)]
      clear HO hj hlt
      go_wp2
      go_ret
      exact ⟨_, rfl, HRD.out, HB.out⟩
theorem Since_r {B d : Nat} {gd : Option Nat} {m : Int} {s : LS} {w : World} (h : IsR B d gd m s.all s.fl s.la w) (rev : Int) (hm : s.all.length ≤ 1000000) :
    Calls Try.prog 15 #[.pointer (some ⟨d, 0, none⟩), .int .i64 rev] w fun e w' => ∃ v, e = .returned (.tuple #[v, .int .i64 (sncE s rev)]) ∧ RdE v (sncL s rev) w' ∧ Below w.heap.size w w' := by
  have HA := Lib.hid (Above_c h rev hm)
  obtain ⟨v, hv, ho, _⟩ := h.ex
  obtain ⟨c0, c1, c2, c3⟩ := cells4 hv
  clear h hv ho
  unfold sncL sncE
  by_cases h1 : rev < s.fl
  · rw [if_pos h1, if_neg (by decide)]
    go_enter Try.func15, Try.ntmps15
    go_wp2
    exact bodyPost_ret (v := .tuple #[.slice none 0 0, .int .i64 9]) (by simp [results, Try.results15, go_sem]) rfl ⟨_, rfl, Rd.nil _ _ _ _, Below.refl _ _⟩
  · by_cases h2 : s.la < rev
    · rw [if_neg h1, if_pos h2, if_neg (by decide)]
      go_enter Try.func15, Try.ntmps15
      go_wp2
      exact bodyPost_ret (v := .tuple #[.slice none 0 0, .int .i64 1]) (by simp [results, Try.results15, go_sem]) rfl ⟨_, rfl, Rd.nil _ _ _ _, Below.refl _ _⟩
    · rw [if_neg h1, if_neg h2, if_pos rfl]
      go_enter Try.func15, Try.ntmps15
      go_wp2_with fail
      refine HA.out.mono ?_
      rintro e w1 ⟨v1, rfl, hrd, hb⟩
      have HRD := Lib.hid hrd
      have HB := Lib.hid hb
      clear hrd hb c0 c1 c2 c3
      go_wp2
      exact bodyPost_ret (v := .tuple #[v1, .int .i64 0]) (by simp [results, Try.results15, go_sem]) rfl ⟨_, rfl, HRD.out, HB.out⟩
end Go.Proofs.Ytcmcbocegdejjaa.Cl

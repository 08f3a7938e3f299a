/- Contracts of package clog's Add, whole, and of slices.Clone there; no other condition. -/
import Derived.Test.YtcmcbocegdejjaaClG
import Derived.Deep.RegionHeld3
namespace Go.Proofs.Ytcmcbocegdejjaa.Cl
open Go.RowKit Go.Lib Go.Shelf Go.Sort
set_option linter.unusedSimpArgs false
set_option linter.unusedVariables false

/-- the program's log in a state -/
abbrev IsS (B c : Nat) (gb : Option Nat) (m : Int) (s : LS) (W : World) : Prop := IsLg B c gb m (abv s.all s.fl) s.fl s.la W
abbrev Sq (B c : Nat) (gb : Option Nat) (m : Int) (s : LS) (w W : World) : Prop := Lq B c gb m (abv s.all s.fl) s.fl s.la w W
theorem Add_c {B c : Nat} {gb : Option Nat} {m : Int} {s : LS} {w : World} (h : IsS B c gb m s w) (hB : B ≤ w.heap.size) (hR : Rgt s) (rev : Int) (ao : Option Addr) (cap : Nat) (cs : List Chg) (hA : Apt c gb (.slice ao cs.length cap) cs w) (hl : s.all.length ≤ 100000) (hcl : cs.length ≤ 100000) :
    Calls Try.prog 20 #[.pointer (some ⟨c, 0, none⟩), .int .i64 rev, .slice ao cs.length cap] w fun e w' => e = .returned (.int .i64 (addE s rev)) ∧ Sq B c gb m (s.add (max m 1) rev cs) w w' := by
  by_cases hr : rev ≤ s.la
  · unfold addE LS.add
    rw [if_pos hr, if_pos hr]
    refine (Add_arg h rev _ hr).mono ?_
    rintro e w' ⟨rfl, rfl⟩
    exact ⟨rfl, gb, h, Ch.of (Below.refl _ _), .inl rfl⟩
  · have hgt : s.la < rev := by omega
    have hfr : s.fl < rev := by have := hR.fl; omega
    have hofc : abv (ofC rev cs) s.fl = ofC rev cs := abv_all fun x hx => by rw [ofC_mem hx]; exact hfr
    have hL : abv s.all s.fl ++ ofC rev cs = abv (s.all ++ ofC rev cs) s.fl := by rw [abv_app, hofc]
    have hS : Srt (s.all ++ ofC rev cs) := srt_ofC hR.srt (fun x hx => by have := hR.top x hx; omega) cs
    have hal := abv_len s.all s.fl
    have hM : (0 : Int) ≤ max m 1 := by omega
    have ha := Add_ok h hB rev ao cap cs hgt hA (by rw [hL]; exact srt_abv hS _) (fun x hx => by rw [hL] at hx; exact (mem_abv hx).2) (by omega) hcl
    rw [hL] at ha
    have e1 : trm (max m 1) (abv (s.all ++ ofC rev cs) s.fl) (abv (s.all ++ ofC rev cs) s.fl).length s.fl = trm (max m 1) (s.all ++ ofC rev cs) (s.all ++ ofC rev cs).length s.fl := by
      rw [trm_abv _ _ (Int.le_refl _)]
      exact trm_enough hM _ _ _ (Nat.le_refl _) (abv_len _ _)
    rw [e1, abv_abv (trm_ge _ _).1] at ha
    unfold addE LS.add
    rw [if_neg hr, if_neg hr]
    exact ha
theorem rd_cells {g off cap n : Nat} {l : List Ent} {w : World} (h : RdE (.slice (some ⟨g, off, none⟩) n cap) l w) : ∀ j u, (eC l)[j]? = some u → w.cell? ((⟨g, off, none⟩ : Addr).add j) = some u := by
  intro j u hu
  have hl : 0 < l.length := by
    cases l with
    | nil => simp [eC] at hu
    | cons x r => simp
  obtain ⟨g', o', e, hg, hr⟩ := h.at hl
  injection e with e
  injection e with e1 e2
  subst e1 e2
  rw [addrO]
  exact hr j u hu
set_option maxRecDepth 100000 in
set_option maxHeartbeats 2000000 in
theorem clone_c (ao : Option Addr) (cap : Nat) (l : List Ent) (w : World) (hR : RdE (.slice ao l.length cap) l w) (hp : ∀ a, ao = some a → ∃ g off, a = ⟨g, off, none⟩) (hm : l.length ≤ 1000000) :
    Calls Try.prog 22 #[.slice ao l.length cap] w fun e w' => ∃ v, e = .returned v ∧ RdE v l w' ∧ Below w.heap.size w w' := by
  obtain ⟨i0, hi, hz0, hz1, hz2⟩ := info_parts infoE
  cases ao with
  | none =>
    have h0 : l = [] := by
      cases l with
      | nil => rfl
      | cons x r => obtain ⟨g, off, e, _⟩ := hR.at (by simp); cases e
    subst h0
    have q : ∀ W : World, (binOp .eql 37 (.slice none 0 cap) (.slice none 0 0)).run Try.prog W = .ok (.bool true) W := fun W => Lib.run_eql_slice_nil W _ _ _ _ _ _ _ Try.underlying37
    go_enter Try.func22, Try.ntmps22
    go_wp2
    go_ret
    exact ⟨_, rfl, Rd.nil _ _ _ _, Below.refl _ _⟩
  | some a =>
    obtain ⟨g, off, rfl⟩ := hp a rfl
    obtain ⟨W0, hW0, hO, hb0⟩ : ∃ W0, W0 = w.alloc (.cells #[] 57) ∧ W0.ownsRow w.heap.size 57 4 (.slice (some ⟨w.heap.size, 0, none⟩) 0 0) 0 [] ∧ Below w.heap.size w W0 := ⟨_, rfl, World.ownsRow_made w #[] 0 (Nat.le_refl _) (by unfold maxLen; omega) rfl, (Below.refl _ _).alloc (Nat.le_refl _) _⟩
    have HC := Lib.hid (rd_cells (hR.go hb0))
    have HO := Lib.hid hO
    have HB0 := Lib.hid hb0
    have HW0 := Lib.hid hW0
    have D1 := Lib.hid (eC_len l)
    have D2 := Lib.hid (eC_one l)
    have D3 : Hid (0 + l.length ≤ maxLen) := by show _ ≤ _; unfold maxLen; omega
    have D4 : Hid ((0 + l.length) * 48 ≤ 140737488355328) := by show _ ≤ _; omega
    have D5 : Hid (w.heap.size ≤ W0.heap.size) := hb0.size
    have q : ∀ W : World, (binOp .eql 37 (.slice (some ⟨g, off, none⟩) l.length cap) (.slice none 0 0)).run Try.prog W = .ok (.bool false) W := fun W => Lib.run_eql_slice_nil W _ _ _ _ _ _ _ Try.underlying37
    clear hO hb0 hW0 hR
    go_enter Try.func22, Try.ntmps22
    go_wp2_with (at_builtin; rw [← HW0.out]; refine wpList_append_own _ rfl _ _ 37 rfl w.heap.size 57 i0 _ 4 48 Try.underlying37 hi hz0 hz1 hz2 rfl (by decide) _ _ _ rfl HO.out ⟨g, off, none⟩ l.length cap (eC l) rfl D1.out HC.out D2.out D3.out D4.out D5.out ?_)
    intro v1 V1 hown1 hgrow1 _
    have hB1 : Below w.heap.size w V1 := HB0.out.grown hgrow1 HB0.out.size (fun k hk => (HO.out.lt k hk).1)
    have hO1 : RdE v1 l V1 := by
      have := own_rd hown1
      simpa using this
    have HB1 := Lib.hid hB1
    have HO1 := Lib.hid hO1
    clear hown1 hgrow1 hB1 hO1
    go_wp2
    go_ret
    exact ⟨_, rfl, HO1.out, HB1.out⟩
theorem Since_nil (rev : Int) (w : World) : Calls Try.prog 14 #[.pointer none, .int .i64 rev] w fun e w' => e = .returned (.tuple #[.slice none 0 0, .int .i64 2]) ∧ w' = w := by
  go_enter Try.func14, Try.ntmps14
  go_wp2
  exact bodyPost_ret (v := .tuple #[.slice none 0 0, .int .i64 2]) (by simp [results, Try.results14, go_sem]) rfl ⟨rfl, rfl⟩
set_option maxRecDepth 100000 in
theorem Since_gone {B c : Nat} {gb : Option Nat} {m : Int} {l : List Ent} {fl la : Int} {w : World} (h : IsLg B c gb m l fl la w) (rev : Int) (hr : rev < fl) : Calls Try.prog 14 #[.pointer (some ⟨c, 0, none⟩), .int .i64 rev] w fun e w' => e = .returned (.tuple #[.slice none 0 0, .int .i64 9]) ∧ w' = w := by
  obtain ⟨v, hv, _, _⟩ := h.ex
  obtain ⟨c0, c1, c2, c3⟩ := cells4 hv
  clear h hv
  go_enter Try.func14, Try.ntmps14
  go_wp2
  exact bodyPost_ret (v := .tuple #[.slice none 0 0, .int .i64 9]) (by simp [results, Try.results14, go_sem]) rfl ⟨rfl, rfl⟩
set_option maxRecDepth 100000 in
theorem Since_arg {B c : Nat} {gb : Option Nat} {m : Int} {l : List Ent} {fl la : Int} {w : World} (h : IsLg B c gb m l fl la w) (rev : Int) (hr : ¬ rev < fl) (hr2 : la < rev) : Calls Try.prog 14 #[.pointer (some ⟨c, 0, none⟩), .int .i64 rev] w fun e w' => e = .returned (.tuple #[.slice none 0 0, .int .i64 1]) ∧ w' = w := by
  obtain ⟨v, hv, _, _⟩ := h.ex
  obtain ⟨c0, c1, c2, c3⟩ := cells4 hv
  clear h hv
  go_enter Try.func14, Try.ntmps14
  go_wp2
  exact bodyPost_ret (v := .tuple #[.slice none 0 0, .int .i64 1]) (by simp [results, Try.results14, go_sem]) rfl ⟨rfl, rfl⟩
def SnQ (l : List Ent) (w : World) (e : Ending) (w' : World) : Prop := ∃ v, e = .returned (.tuple #[v, .int .i64 0]) ∧ RdE v l w' ∧ Below w.heap.size w w'
set_option maxRecDepth 100000 in
set_option maxHeartbeats 4000000 in
theorem Since_ok {B c : Nat} {gb : Option Nat} {m : Int} {l : List Ent} {fl la : Int} {w : World} (h : IsLg B c gb m l fl la w) (rev : Int) (hr : ¬ rev < fl) (hr2 : ¬ la < rev) (hs : Srt l) (hm : l.length ≤ 1000000) :
    Calls Try.prog 14 #[.pointer (some ⟨c, 0, none⟩), .int .i64 rev] w (SnQ (abv l rev) w) := by
  have HU := Lib.hid (upTo_c (h.go (bdr w)) rev hs hm)
  have hdc := drop_cnt rev hs
  have hcl := cnt_le l rev
  obtain ⟨v, hv, ho, _⟩ := h.ex
  have hclt := h.lt
  obtain ⟨c0, c1, c2, c3⟩ := cells4 hv
  have HV := Lib.hid hv
  have hll : (abv l rev).length = l.length - cnt l rev := by rw [← hdc, List.length_drop]
  have hBW := bdr w
  rcases ho with ⟨rfl, rfl⟩ | ⟨g, o, cap, rfl, g1, g2, g3, g4, g5, g6⟩
  · have e1 : abv [] rev = [] := rfl
    have e2 : cnt [] rev = 0 := rfl
    rw [e1]
    rw [e2] at HU
    have HC0 : Hid (∀ W, Below w.drew.heap.size w.drew W → Calls Try.prog 22 #[.slice none 0 0] W fun e w' => ∃ v, e = .returned v ∧ RdE v [] w' ∧ Below W.heap.size W w') := fun W _ => clone_c none 0 [] W (Rd.nil _ _ _ _) (fun a e => by cases e) (by simp)
    clear h hv hdc hcl hll e1 e2
    go_enter Try.func14, Try.ntmps14
    go_wp2_with fail
    go_region_held3 (fun V => V.cell? ⟨c, 1, none⟩ = some (.slice none 0 0))
      (first | (with_reducible exact c1) | exact cell_of_row _ _ 1 _ _ _ HV.out | exact HS1.out | exact HS2.out)
      (first | (go_at_call 23; (with_reducible refine HU.out.mono ?_); rintro e w1 ⟨rfl, hb1⟩; have HB1 := Lib.hid hb1; have HS1 : Hid (w1.cell? ⟨c, 1, none⟩ = some (.slice none 0 0)) := (hb1.cell (p := ⟨c, 1, none⟩) hclt).trans (cell_of_row _ _ 1 _ _ _ HV.out); clear hb1) | (go_at_call 22; (with_reducible refine (HC0.out _ HB1.out).mono ?_); rintro e w2 ⟨v2, rfl, hrd, hb2⟩; have HR2 := Lib.hid hrd; have HB2 : Hid (Below w.heap.size w w2) := (hBW.trans (HB1.out.mono hBW.size)).trans (hb2.mono (hBW.trans (HB1.out.mono hBW.size)).size); have HS2 : Hid (w2.cell? ⟨c, 1, none⟩ = some (.slice none 0 0)) := (HB2.out.cell (p := ⟨c, 1, none⟩) hclt).trans (cell_of_row _ _ 1 _ _ _ HV.out); clear hrd hb2))
    all_goals
      go_wp2_with fail
      exact bodyPost_ret (v := .tuple #[v2, .int .i64 0]) (by simp [results, Try.results14, go_sem]) rfl ⟨v2, rfl, HR2.out, HB2.out⟩
  · obtain ⟨r, hr0⟩ : ∃ r, r = cnt l rev := ⟨_, rfl⟩
    obtain ⟨l2, hl2⟩ : ∃ l2, l2 = abv l rev := ⟨_, rfl⟩
    rw [← hr0] at HU hdc hcl hll
    rw [← hl2] at hdc hll ⊢
    unfold maxLen at g4
    have HC0 : Hid (∀ W, Below w.drew.heap.size w.drew W → ∀ o2 c2, (0 < l.length - r → o2 = o + r * 4) → Calls Try.prog 22 #[.slice (some ⟨g, o2, none⟩) (l.length - r) c2] W fun e w' => ∃ v, e = .returned v ∧ RdE v l2 w' ∧ Below W.heap.size W w') := fun W hbW o2 c2 ho2 => by
      rw [← hll]
      refine clone_c (some ⟨g, o2, none⟩) c2 l2 W ⟨_, _, rfl, fun h0 => ⟨g, o2, rfl, ?_, ?_⟩⟩ (fun a e => by injection e with e; exact ⟨_, _, e.symm⟩) (by omega)
      · exact Nat.lt_of_lt_of_le g2 (hbW.size)
      · rw [ho2 (by omega), ← hdc, eC_drop]
        intro j v hv
        rw [List.getElem?_drop] at hv
        have := g5 _ _ hv
        rw [← Nat.add_assoc] at this
        exact (hbW.cell (p := ⟨g, o + r * 4 + j, none⟩) g2).trans this
    have i0 : (0 : Int) ≤ (r : Int) := by omega
    have i1 : (r : Int) ≤ (cap : Int) := by omega
    have i2 : (r : Int) ≤ (l.length : Int) := by omega
    by_cases hrc : r = cap
    · have ecap : cap = l.length := by omega
      have erl : r = l.length := by omega
      subst ecap
      subst erl
      have HC0 : Hid (∀ W, Below w.drew.heap.size w.drew W → Calls Try.prog 22 #[.slice (some ⟨g, o, none⟩) (l.length - l.length) (l.length - l.length)] W fun e w' => ∃ v, e = .returned v ∧ RdE v l2 w' ∧ Below W.heap.size W w') := fun W hbW => HC0.out W hbW o _ (fun h0 => by omega)
      rw [Nat.sub_self] at HC0
      clear h hv hdc hcl hll g1 g2 g3 g4 g5 g6 hl2 hr0 i1 i2 hrc
      go_enter Try.func14, Try.ntmps14
      go_wp2_with fail
      go_region_held3 (fun V => V.cell? ⟨c, 1, none⟩ = some (.slice (some ⟨g, o, none⟩) l.length l.length))
        (first | (with_reducible exact c1) | exact cell_of_row _ _ 1 _ _ _ HV.out | exact HS1.out | exact HS2.out)
        (first | (go_at_call 23; (with_reducible refine HU.out.mono ?_); rintro e w1 ⟨rfl, hb1⟩; have HB1 := Lib.hid hb1; have HS1 : Hid (w1.cell? ⟨c, 1, none⟩ = some (.slice (some ⟨g, o, none⟩) l.length l.length)) := (hb1.cell (p := ⟨c, 1, none⟩) hclt).trans (cell_of_row _ _ 1 _ _ _ HV.out); clear hb1) | (go_at_call 22; (with_reducible refine (HC0.out _ HB1.out).mono ?_); rintro e w2 ⟨v2, rfl, hrd, hb2⟩; have HR2 := Lib.hid hrd; have HB2 : Hid (Below w.heap.size w w2) := (hBW.trans (HB1.out.mono hBW.size)).trans (hb2.mono (hBW.trans (HB1.out.mono hBW.size)).size); have HS2 : Hid (w2.cell? ⟨c, 1, none⟩ = some (.slice (some ⟨g, o, none⟩) l.length l.length)) := (HB2.out.cell (p := ⟨c, 1, none⟩) hclt).trans (cell_of_row _ _ 1 _ _ _ HV.out); clear hrd hb2))
      all_goals
        go_wp2_with fail
        exact bodyPost_ret (v := .tuple #[v2, .int .i64 0]) (by simp [results, Try.results14, go_sem]) rfl ⟨v2, rfl, HR2.out, HB2.out⟩
    · have hcz : ¬ (r : Int) = (cap : Int) := by omega
      have hcz2 : ¬ cap = r := by omega
      have HC0 : Hid (∀ W, Below w.drew.heap.size w.drew W → Calls Try.prog 22 #[.slice (some ⟨g, o + r * 4, none⟩) (l.length - r) (cap - r)] W fun e w' => ∃ v, e = .returned v ∧ RdE v l2 w' ∧ Below W.heap.size W w') := fun W hbW => HC0.out W hbW _ _ (fun _ => rfl)
      clear h hv hdc hcl hll g1 g2 g3 g4 g5 g6 hl2 hr0 hrc
      go_enter Try.func14, Try.ntmps14
      go_wp2_with fail
      go_region_held3 (fun V => V.cell? ⟨c, 1, none⟩ = some (.slice (some ⟨g, o, none⟩) l.length cap))
        (first | (with_reducible exact c1) | exact cell_of_row _ _ 1 _ _ _ HV.out | exact HS1.out | exact HS2.out)
        (first | (go_at_call 23; (with_reducible refine HU.out.mono ?_); rintro e w1 ⟨rfl, hb1⟩; have HB1 := Lib.hid hb1; have HS1 : Hid (w1.cell? ⟨c, 1, none⟩ = some (.slice (some ⟨g, o, none⟩) l.length cap)) := (hb1.cell (p := ⟨c, 1, none⟩) hclt).trans (cell_of_row _ _ 1 _ _ _ HV.out); clear hb1) | (go_at_call 22; (with_reducible refine (HC0.out _ HB1.out).mono ?_); rintro e w2 ⟨v2, rfl, hrd, hb2⟩; have HR2 := Lib.hid hrd; have HB2 : Hid (Below w.heap.size w w2) := (hBW.trans (HB1.out.mono hBW.size)).trans (hb2.mono (hBW.trans (HB1.out.mono hBW.size)).size); have HS2 : Hid (w2.cell? ⟨c, 1, none⟩ = some (.slice (some ⟨g, o, none⟩) l.length cap)) := (HB2.out.cell (p := ⟨c, 1, none⟩) hclt).trans (cell_of_row _ _ 1 _ _ _ HV.out); clear hrd hb2))
      all_goals
        go_wp2_with fail
        exact bodyPost_ret (v := .tuple #[v2, .int .i64 0]) (by simp [results, Try.results14, go_sem]) rfl ⟨v2, rfl, HR2.out, HB2.out⟩
end Go.Proofs.Ytcmcbocegdejjaa.Cl

/- The contract of package head's reader's head, put together: for every text of at most a thousand bytes; where the library's variable MaxLen holds a number. -/
import Derived.Test.YtkblggpnghdnmaaGreatDoorHdHeadG
namespace Go.Proofs.YtkblggpnghdnmaaGreatDoor.Hd
open Go.RowKit Ch
set_option linter.unusedSimpArgs false
set_option linter.unusedVariables false

theorem heap_old {w : World} {g : Nat} {o : Obj} (o' : Obj) (h : w.heap[g]? = some o) : (w.alloc o').heap[g]? = some o := ((Below.refl w.heap.size w).alloc (Nat.le_refl _) o').block g (Array.getElem?_eq_some_iff.1 h).1 |>.trans h
theorem gb_alloc {a w : World} {g : Option Nat} (h : a.grownBy w g) (o : Obj) : a.grownBy (w.alloc o) g := gb_trans h (gb_below ((Below.refl w.heap.size w).alloc (Nat.le_refl _) o))
set_option maxRecDepth 100000 in
set_option maxHeartbeats 1000000 in
theorem hd_e (g : Nat) (s : ByteArray) (a b c st : Int) (w : World) (hR : RdB g s 0 0 a b c w) (hM : Mx w) (hg : g ≠ 1) (HF : Hid (∀ W, RdB g s 0 0 a b c W → Mx W → Calls Tryz.prog 26 #[.pointer (some ⟨g, 0, none⟩)] W fun e w' => ∃ k ln n, e = .returned (.tuple #[.agg #[.string ⟨#[]⟩, .string ⟨#[]⟩, .int .i64 0, .slice none 0 0], fltV n st]) ∧ RdB g s k ln a b c w' ∧ W.grownBy w' (some g))) :
    Calls Tryz.prog 22 #[.pointer (some ⟨g, 0, none⟩)] w fun e w' => ∃ k ln n, e = .returned (.tuple #[.agg #[.string ⟨#[]⟩, .string ⟨#[]⟩, .int .i64 0, .slice none 0 0], fltV n st]) ∧ RdB g s k ln a b c w' ∧ w.grownBy w' (some g) := by
  have hgl := hR.lt
  have hb0 : Below w.heap.size w (w.alloc (.cells #[.string ⟨#[]⟩, .string ⟨#[]⟩, .int .i64 0, .slice none 0 0] 35)) := (Below.refl _ _).alloc (Nat.le_refl _) _
  have HF0 := Lib.hid (HF.out _ (hR.go hb0) (hM.go hb0))
  have HB0 := Lib.hid hb0
  have HT0 := Lib.hid (heap_alloc_new w (.cells #[.string ⟨#[]⟩, .string ⟨#[]⟩, .int .i64 0, .slice none 0 0] 35))
  have hz0 : ∀ o, (w.alloc o).heap.size = w.heap.size + 1 := fun o => by simp
  unfold fltV at HF0
  clear hR hM hb0 HF
  go_enter Tryz.func22, Tryz.ntmps22
  go_wp2_with fail
  (with_reducible refine HF0.out.mono ?_)
  rintro e w1 ⟨k, ln, n, rfl, hR1, hG1⟩
  have hs1 : w.heap.size < w1.heap.size := by have := hG1.size; rw [hz0] at this; omega
  have HT1 : Hid (w1.heap[w.heap.size]? = some (.cells #[.string ⟨#[]⟩, .string ⟨#[]⟩, .int .i64 0, .slice none 0 0] 35 (0, 0))) := ((hG1.block _ (by rw [hz0]; omega) (fun e => by injection e with e; omega)).trans HT0.out)
  have HG1 : Hid (w.grownBy w1 (some g)) := gb_trans (gb_below HB0.out) hG1
  have HR1 := Lib.hid hR1
  clear hR1 hG1 HF0
  have c0 := cell_of_row _ _ 0 _ _ _ HT1.out
  have c1 := cell_of_row _ _ 1 _ _ _ HT1.out
  have c2 := cell_of_row _ _ 2 _ _ _ HT1.out
  have c3 := cell_of_row _ _ 3 _ _ _ HT1.out
  have z0 := frz2 HT1.out 0
  have z1 := frz2 HT1.out 1
  have z2 := frz2 HT1.out 2
  have z3 := frz2 HT1.out 3
  have hn1' : w.heap.size ≠ w1.heap.size := by omega
  have HH := Lib.hid (heap_old (.cells #[.string ⟨#[]⟩, .string ⟨#[]⟩, .int .i64 0, .slice none 0 0] 35) (set4 HT1.out (.string ⟨#[]⟩) (.string ⟨#[]⟩) (.int .i64 0) (.slice none 0 0)))
  have HHR : Hid (RdB g s k ln a b c _) := Lib.hid (heap_old (.cells #[.string ⟨#[]⟩, .string ⟨#[]⟩, .int .i64 0, .slice none 0 0] 35) (ne4 (g := w.heap.size) HR1.out (by omega) (.string ⟨#[]⟩) (.string ⟨#[]⟩) (.int .i64 0) (.slice none 0 0)))
  have HHG := Lib.hid (gb_alloc (gb_up HG1.out (bel4 (Below.refl w.heap.size w1) (Nat.le_refl _) (.string ⟨#[]⟩) (.string ⟨#[]⟩) (.int .i64 0) (.slice none 0 0)) (Nat.le_refl _)) (.cells #[.string ⟨#[]⟩, .string ⟨#[]⟩, .int .i64 0, .slice none 0 0] 35))
  go_wp2
  have d0 := cell_of_row _ _ 0 _ _ _ HH.out
  have d1 := cell_of_row _ _ 1 _ _ _ HH.out
  have d2 := cell_of_row _ _ 2 _ _ _ HH.out
  have d3 := cell_of_row _ _ 3 _ _ _ HH.out
  clear c0 c1 c2 c3 z0 z1 z2 z3
  (with_reducible refine bodyPost_ret (v := .tuple #[.agg #[.string ⟨#[]⟩, .string ⟨#[]⟩, .int .i64 0, .slice none 0 0], fltV n st]) (by simp [results, Tryz.results22, go_sem, fltV, d0, d1, d2, d3]) rfl ⟨_, _, n, rfl, HHR.out, HHG.out⟩)
/-- what a head is, with its fields and where it ends, or a status -/
def hdL (l : List UInt8) (a b : Int) : Except Int (FirT × List FldL × Nat) := match fhL l a with
  | .error st => .error st
  | .ok x => match fldF (l.length + 1) l x.2 a b [] with
    | .error st => .error st
    | .ok y => if x.1.2.2 ≠ 0 ∧ cntL [72, 111, 115, 116] y.1 ≠ 1 then .error 400 else .ok (x.1, y.1, y.2)
def HdQ (g : Nat) (s : ByteArray) (a b c : Int) (q : Except Int (FirT × List FldL × Nat)) (w : World) (e : Ending) (w' : World) : Prop := match q with
  | .ok x => ∃ ao cp ln, e = .returned (.tuple #[.agg #[.string (mkS x.1.1), .string (mkS x.1.2.1), .int .i64 x.1.2.2, .slice ao x.2.1.length cp], .nilIface]) ∧ OwL w.heap.size (.slice ao x.2.1.length cp) x.2.1 w' ∧ RdB g s x.2.2 ln a b c w' ∧ w.grownBy w' (some g)
  | .error st => ∃ k ln n, e = .returned (.tuple #[.agg #[.string ⟨#[]⟩, .string ⟨#[]⟩, .int .i64 0, .slice none 0 0], fltV n st]) ∧ RdB g s k ln a b c w' ∧ w.grownBy w' (some g)
theorem of_len {l : List UInt8} {x : FldL} (h : ofL l = some x) : x.1.length ≤ l.length := by
  unfold ofL at h
  split at h
  · injection h with e; rw [← e]; exact (cutP_len 58 l).1
  · cases h
theorem fld_bd : ∀ (f : Nat) (l : List UInt8) (k : Nat) (a b : Int) (acc : List FldL) (y : List FldL × Nat), fldF f l k a b acc = .ok y → (∀ x ∈ acc, x.1.length ≤ l.length) → y.1.length ≤ f + acc.length ∧ ∀ x ∈ y.1, x.1.length ≤ l.length
  | 0, _, _, _, _, _, _, h, _ => by cases h
  | f + 1, l, k, a, b, acc, y, h, hacc => by
    rw [fldF] at h
    split at h
    · cases h
    · rename_i j hj
      split at h
      · injection h with e; rw [← e]; exact ⟨by show acc.length ≤ _; omega, hacc⟩
      · split at h
        · cases h
        · split at h
          · cases h
          · rename_i x hx
            have h2 := fld_bd f l _ a b _ y h (fun z hz => by
              rcases List.mem_append.1 hz with hz | hz
              · exact hacc z hz
              · rw [List.mem_singleton.1 hz]
                have := of_len hx
                rw [List.length_take, List.length_drop] at this
                omega)
            rw [List.length_append] at h2
            exact ⟨by have := h2.1; simp at this; omega, h2.2⟩
theorem fh_pl {l : List UInt8} {a : Int} {x : FirT × Nat} (h : fhL l a = .ok x) : x.2 ≤ l.length := by
  unfold fhL at h
  split at h
  · cases h
  · rename_i j hj
    have := nx_room (Nat.zero_le _) hj
    split at h
    · cases h
    · injection h with e; rw [← e]; exact this
theorem head_g (g : Nat) (s : ByteArray) (a b c : Int) (w : World) (hR : RdB g s 0 0 a b c w) (hM : Mx w) (hg : g ≠ 1) (hs : s.size ≤ 1000) :
    Calls Tryz.prog 22 #[.pointer (some ⟨g, 0, none⟩)] w (HdQ g s a b c (hdL s.data.toList a b) w) := by
  have hsl := Lib.size_eq s
  have HF : ∀ W, RdB g s 0 0 a b c W → Mx W → Calls Tryz.prog 26 #[.pointer (some ⟨g, 0, none⟩)] W (FrQ g s a b c (fhL s.data.toList a) W) := fun W h k => first_g g s a b c W h k hg hs
  unfold hdL
  cases hf : fhL s.data.toList a with
  | error st =>
    rw [hf] at HF
    exact hd_e g s a b c st w hR hM hg (Lib.hid HF)
  | ok x =>
    obtain ⟨⟨pm, pt, mn⟩, k1⟩ := x
    rw [hf] at HF
    have hk := fh_pl hf
    simp only at hk ⊢
    have HD : ∀ W, RdB g s k1 1 a b c W → Mx W → Calls Tryz.prog 27 #[.pointer (some ⟨g, 0, none⟩)] W (FdQ g s a b c (fldF (s.data.toList.length + 1) s.data.toList k1 a b []) W) := fun W h k => by
      have := fields_g g s k1 1 a b c W h k hg hs (by omega) (by omega) (by omega)
      rw [hsl] at this
      exact this
    cases hd : fldF (s.data.toList.length + 1) s.data.toList k1 a b [] with
    | error st =>
      rw [hd] at HD
      exact hd_f g s _ _ k1 0 a b c mn st [] w hR hM hg (Lib.hid HF) (Lib.hid HD)
    | ok y =>
      obtain ⟨fs, k2⟩ := y
      rw [hd] at HD
      have hbd := fld_bd _ _ _ _ _ _ _ hd (fun x hx => by cases hx)
      have hm : fs.length ≤ 2000 := by have := hbd.1; simp only [List.length_nil] at this; omega
      have hfs : ∀ x ∈ fs, x.1.length ≤ 1000 := fun x hx => by have := hbd.2 x hx; omega
      simp only
      by_cases h0 : mn = 0
      · rw [if_neg (fun h => h.1 h0)]
        exact hd_z g s _ _ k1 k2 a b c mn 0 fs w hR hM hg (Lib.hid HF) (Lib.hid HD) h0
      · have hn0 : (mn == 0) = false := by simpa using h0
        have hn1 : (mn != 0) = true := by simpa using h0
        by_cases h1 : cntL [72, 111, 115, 116] fs = 1
        · rw [if_neg (fun h => h.2 h1)]
          exact hd_o g s _ _ k1 k2 a b c mn 0 fs w hR hM hg (Lib.hid HF) (Lib.hid HD) hm hfs hn0 hn1 h1
        · rw [if_pos ⟨h0, h1⟩]
          exact hd_h g s _ _ k1 k2 a b c mn 0 fs w hR hM hg (Lib.hid HF) (Lib.hid HD) hm hfs hn0 hn1 (beq_eq_false_iff_ne.2 (by omega)) (bne_iff_ne.2 (by omega)) h1
end Go.Proofs.YtkblggpnghdnmaaGreatDoor.Hd

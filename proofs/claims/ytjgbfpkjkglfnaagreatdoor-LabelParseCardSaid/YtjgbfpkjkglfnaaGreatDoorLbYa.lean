/- Contracts and plain mathematics of some packages' functions, laid together; conditions as each one says. -/
import Derived.Test.YtjgbfpkjkglfnaaGreatDoorJtPub
import Derived.Test.YtjgbfpkjkglfnaaGreatDoorLbNa
import Derived.Test.YtjgbfpkjkglfnaaGreatDoorLbSh
import Derived.BigQuiet
namespace Go.Proofs.YtjgbfpkjkglfnaaGreatDoor.Jt
set_option linter.unusedSimpArgs false
set_option linter.unusedVariables false

theorem unit_le' {l : List UInt8} {k : Nat} (hk : k < l.length) (h : (unitL l k).2 ≠ 0) : k + (unitL l k).2 ≤ l.length := by
  unfold unitL at h ⊢
  by_cases h1 : at0 l k < 32 ∨ at0 l k = 34
  · rw [if_pos h1] at h; exact absurd rfl h
  · rw [if_neg h1] at h ⊢
    by_cases h2 : at0 l k ≠ 92
    · rw [if_pos h2] at h ⊢
      by_cases h3 : runL l k = 0
      · rw [if_pos h3] at h; exact absurd rfl h
      · rw [if_neg h3]
        have := (Ut.nextW_k (nl (l.drop k))).1
        rw [nl_len, List.length_drop] at this
        show k + runL l k ≤ _
        unfold runL at h3 ⊢
        omega
    · rw [if_neg h2] at h ⊢; exact back_le l k h
theorem textF_bd (l : List UInt8) : ∀ (f k : Nat) (r : List UInt8 × Nat), textF l f k = some r → k < r.2 ∧ r.2 ≤ l.length
  | 0, k, r, h => by cases h
  | f + 1, k, r, h => by
    unfold textF at h
    by_cases h1 : l.length ≤ k
    · rw [if_pos h1] at h; cases h
    · rw [if_neg h1] at h
      by_cases h2 : at0 l k = 34
      · rw [if_pos h2] at h; cases h; show k < k + 1 ∧ k + 1 ≤ _; omega
      · rw [if_neg h2] at h
        by_cases h3 : (unitL l k).2 = 0
        · rw [if_pos h3] at h; cases h
        · rw [if_neg h3] at h
          cases hx : textF l f (k + (unitL l k).2) with
          | none => rw [hx] at h; cases h
          | some r' =>
            rw [hx] at h
            have := textF_bd l f _ r' hx
            cases h
            show k < r'.2 ∧ r'.2 ≤ _
            omega
theorem text_bd {l : List UInt8} {k : Nat} {r : List UInt8 × Nat} (h : textA l k = some r) : k < r.2 ∧ r.2 ≤ l.length := textF_bd l _ k r h
theorem endP_gt {p : UInt8 → Bool} {l : List UInt8} {k : Nat} (h : k < l.length) (hp : p l[k] = true) : k < endP p l k := by
  have := endP_ge p l (k + 1)
  rw [endP_yes h hp] at this
  omega
theorem tokP_bd {l : List UInt8} {p : Nat} (hp : p < l.length) (h : (tokP l p).2 = 0) : p < (tokP l p).1.b ∧ (tokP l p).1.b ≤ l.length := by
  unfold tokP at h ⊢
  by_cases h1 : sgnI (at0 l p) ≠ 0
  · rw [if_pos h1]; show p < p + 1 ∧ p + 1 ≤ _; omega
  · rw [if_neg h1] at h ⊢
    by_cases h2 : at0 l p = 34
    · rw [if_pos h2] at h ⊢
      cases hx : textA l (p + 1) with
      | none => rw [hx] at h; cases h
      | some r => have := text_bd hx; show p < r.2 ∧ r.2 ≤ _; omega
    · rw [if_neg h2] at h ⊢
      by_cases h3 : at0 l p = 45 ∨ Ch.digB (at0 l p) = true
      · rw [if_pos h3] at h ⊢
        by_cases h4 : Nu.pE (cutL l p (endP numB l p)) = 0
        · rw [if_pos h4]
          refine ⟨endP_gt hp ?_, endP_le (by omega)⟩
          unfold numB wordB
          rw [← at0_get hp]
          rcases h3 with g | g
          · rw [g]; decide
          · rw [g]; simp
        · rw [if_neg h4] at h; exact absurd h h4
      · rw [if_neg h3] at h ⊢
        by_cases h4 : wrdK (cutL l p (endP wordB l p)) = 0
        · rw [if_pos h4] at h; cases h
        · rw [if_neg h4]
          refine ⟨?_, endP_le (by omega)⟩
          show p < endP wordB l p
          rcases Nat.lt_or_ge p (endP wordB l p) with g | g
          · exact g
          · have : endP wordB l p = p := by have := endP_ge wordB l p; omega
            rw [this, cut_nil] at h4
            exact absurd rfl h4
theorem tokA_bd {l : List UInt8} {k : Nat} (hk : k ≤ l.length) (h : (tokA l k).2 = 0) : k < (tokA l k).1.b ∧ (tokA l k).1.b ≤ l.length := by
  unfold tokA at h ⊢
  by_cases h1 : l.length ≤ endP blkB l k
  · rw [if_pos h1] at h; cases h
  · rw [if_neg h1] at h ⊢
    have := tokP_bd (by omega) h
    have := endP_ge blkB l k
    omega
theorem allF_eq (l : List UInt8) : ∀ (f g k : Nat), k ≤ l.length → l.length + 1 ≤ k + f → l.length + 1 ≤ k + g → allF l f k = allF l g k
  | 0, g, k, hk, h, _ => by omega
  | f + 1, 0, k, hk, _, h => by omega
  | f + 1, g + 1, k, hk, h, h' => by
    unfold allF
    by_cases h1 : (tokA l k).2 = 6
    · rw [if_pos h1, if_pos h1]
    · rw [if_neg h1, if_neg h1]
      by_cases h2 : (tokA l k).2 ≠ 0
      · rw [if_pos h2, if_pos h2]
      · rw [if_neg h2, if_neg h2]
        have hb := tokA_bd hk (by omega)
        rw [allF_eq l f g _ hb.2 (by omega) (by omega)]
def allA (l : List UInt8) (k : Nat) : List Tok × Nat × Int := allF l (l.length + 1) k
theorem all_none {l : List UInt8} {k : Nat} (h : (tokA l k).2 = 6) : allA l k = ([], l.length, 0) := by unfold allA allF; rw [if_pos h]
theorem all_err {l : List UInt8} {k : Nat} (h : (tokA l k).2 ≠ 6) (h0 : (tokA l k).2 ≠ 0) : allA l k = ([], endP blkB l k, (tokA l k).2) := by unfold allA allF; rw [if_neg h, if_pos h0]
theorem all_step {l : List UInt8} {k : Nat} (hk : k ≤ l.length) (h0 : (tokA l k).2 = 0) : allA l k = ((tokA l k).1 :: (allA l (tokA l k).1.b).1, (allA l (tokA l k).1.b).2) := by
  have hb := tokA_bd hk h0
  conv => lhs; unfold allA allF
  rw [if_neg (by omega), if_neg (by omega), allF_eq l l.length (l.length + 1) _ hb.2 (by omega) (by omega)]
  rfl
/-- tokens as cells -/
def tkC (t : Tok) : List Value := [.int .i64 t.k, .int .i64 t.a, .int .i64 t.b, .string (mkS t.t), .int .i64 t.n]
def tksC (ts : List Tok) : List Value := ts.flatMap tkC
theorem tksC_snoc (ts : List Tok) (t : Tok) : tksC (ts ++ [t]) = tksC ts ++ tkC t := by unfold tksC; simp
theorem tksC_len (ts : List Tok) : (tksC ts).length = ts.length * 5 := by
  unfold tksC
  induction ts with
  | nil => rfl
  | cons t ts ih => rw [List.flatMap_cons, List.length_append, ih, List.length_cons]; show 5 + _ = _; omega
theorem tksC_at {ts : List Tok} {i : Nat} (h : i < ts.length) (j : Nat) (hj : j < 5) : (tksC ts)[i * 5 + j]? = (tkC ts[i])[j]? := by
  unfold tksC
  induction ts generalizing i with
  | nil => simp at h
  | cons t ts ih =>
    rw [List.flatMap_cons]
    match i, h with
    | 0, _ =>
      rw [List.getElem?_append_left (by show 0 * 5 + j < 5; omega)]
      simp
    | i + 1, h =>
      rw [List.getElem?_append_right (by show 5 ≤ (i + 1) * 5 + j; omega)]
      have e : (i + 1) * 5 + j - (tkC t).length = i * 5 + j := by show (i + 1) * 5 + j - 5 = _; omega
      rw [e]
      exact ih (by simpa using h)
end Go.Proofs.YtjgbfpkjkglfnaaGreatDoor.Jt
namespace Go.Proofs.YtjgbfpkjkglfnaaGreatDoor.Lb
open Go.RowKit Ch Jt
set_option linter.unusedSimpArgs false
set_option linter.unusedVariables false

theorem idx_neg {l : List UInt8} {c : UInt8} (h : ¬ c ∈ l) : Lib.indexByte l c = -1 := by
  have h1 := Lib.indexByte_ge l c
  have h2 : ¬ 0 ≤ Lib.indexByte l c := fun g => h ((Ch.idx_ge l c).1 g)
  omega
theorem ext0 (s : ByteArray) (k : Nat) : s.extract 0 k = Jt.mkS (s.data.toList.take k) := Jt.mkS_of (by rw [Lib.extract_data]; simp)
theorem extN (s : ByteArray) (k : Nat) : s.extract k s.size = Jt.mkS (s.data.toList.drop k) := Jt.mkS_of (by rw [Lib.extract_data, List.take_of_length_le (by rw [List.length_drop, ← Lib.size_eq]; exact Nat.le_refl _)])
def cutP (c : UInt8) (l : List UInt8) : List UInt8 × List UInt8 := (l.takeWhile (· ≠ c), (l.dropWhile (· ≠ c)).drop 1)
theorem cutP_no {c : UInt8} {l : List UInt8} (h : ¬ c ∈ l) : cutP c l = (l, []) := by
  unfold cutP
  have hp : ∀ x ∈ l, (decide (x ≠ c)) = true := fun x hx => by simp; exact fun e => h (e ▸ hx)
  have h1 := List.takeWhile_append_of_pos (l₂ := []) hp
  have h2 := List.dropWhile_append_of_pos (l₂ := []) hp
  rw [List.append_nil] at h1 h2
  rw [h1, h2]; simp
theorem cutP_at {c : UInt8} {p q : List UInt8} (h : ¬ c ∈ p) : cutP c (p ++ c :: q) = (p, q) := by
  unfold cutP
  have hp : ∀ x ∈ p, (decide (x ≠ c)) = true := fun x hx => by simp; exact fun e => h (e ▸ hx)
  rw [List.takeWhile_append_of_pos hp, List.dropWhile_append_of_pos hp]
  simp
theorem cutP_len (c : UInt8) (l : List UInt8) : (cutP c l).1.length ≤ l.length ∧ (cutP c l).2.length ≤ l.length := by
  by_cases h : c ∈ l
  · obtain ⟨p, q, e, hp⟩ := List.eq_append_cons_of_mem h
    subst e
    rw [cutP_at hp]; simp; omega
  · rw [cutP_no h]; simp
def cutV (c : UInt8) (l : List UInt8) : Ending := .returned (.tuple #[.string (Jt.mkS (cutP c l).1), .string (Jt.mkS (cutP c l).2), .bool (decide (c ∈ l))])
set_option maxRecDepth 100000 in
set_option maxHeartbeats 2000000 in
theorem lcut_c (s : ByteArray) (c : UInt8) (w : World) (hs : s.size ≤ 1000) : Calls Tryz.prog 65 #[.string s, .string ⟨#[c]⟩] w fun e w' => e = cutV c s.data.toList ∧ ∃ n, w' = w.drewN n := by
  have HI := Lib.hid (fun W => Any.stringslite_Index_one Tryz.lays219 s c W)
  have hsl := Lib.hid (Lib.size_eq s)
  unfold cutV
  by_cases h : c ∈ s.data.toList
  · obtain ⟨k, hk, hkl, hnm, hsp⟩ := Ch.idx_split s.data.toList c ((Ch.idx_ge _ c).2 h)
    rw [hk] at HI
    have hcp : cutP c s.data.toList = (s.data.toList.take k, s.data.toList.drop (k + 1)) := by
      have := cutP_at (c := c) (p := s.data.toList.take k) (q := s.data.toList.drop (k + 1)) hnm
      rw [← hsp] at this; exact this
    rw [hcp, decide_eq_true h]
    rw [← hsl.out] at hkl
    have HE1 := Lib.hid (ext0 s k)
    have HE2 := Lib.hid (extN s (k + 1))
    have c1 : (0 : Int) ≤ (k : Int) := by omega
    have c2 : (k : Int) ≤ (s.size : Int) := by omega
    have c3 : (0 : Int) ≤ (k : Int) + 1 := by omega
    have c4 : (k : Int) + 1 ≤ (s.size : Int) := by omega
    have hs1 : (ByteArray.mk #[c]).size = 1 := rfl
    clear hk hnm hsp hcp h
    go_enter Tryz.func65, Tryz.ntmps65
    go_wp2_with (go_at_call 81; refine (HI.out _).mono ?_; rintro e w' ⟨rfl, rfl⟩)
    go_quiet (fail)
    go_wp2
    go_ret3
    exact ⟨by rw [← HE1.out, ← HE2.out]; rfl, _, rfl⟩
  · rw [idx_neg h] at HI
    rw [cutP_no h, decide_eq_false h]
    have HE : Hid (s = Jt.mkS s.data.toList) := Jt.mkS_of rfl
    clear h
    go_enter Tryz.func65, Tryz.ntmps65
    go_wp2_with (go_at_call 81; refine (HI.out _).mono ?_; rintro e w' ⟨rfl, rfl⟩)
    go_ret3
    exact ⟨by rw [← HE.out]; rfl, 0, rfl⟩
set_option maxRecDepth 100000 in
set_option maxHeartbeats 2000000 in
theorem scut_c (s : ByteArray) (c : UInt8) (w : World) (hs : s.size ≤ 1000) : Calls Tryz.prog 41 #[.string s, .string ⟨#[c]⟩] w fun e w' => e = cutV c s.data.toList ∧ ∃ n, w' = w.drewN n := by
  have HI := Lib.hid (fun W => lcut_c s c W hs)
  unfold cutV at HI ⊢
  revert HI
  generalize decide (c ∈ s.data.toList) = fd
  intro HI
  go_enter Tryz.func41, Tryz.ntmps41
  go_wp2_with (go_at_call 65; refine (HI.out _).mono ?_; rintro e w' ⟨rfl, n, rfl⟩)
  go_ret3
  exact ⟨rfl, n, rfl⟩
theorem pre_c (s p : ByteArray) (w : World) : Calls Tryz.prog 40 #[.string s, .string p] w fun e w' => e = .returned (.tuple #[.string ⟨(Lib.trimPrefix s.data.toList p.data.toList).toArray⟩, .bool (Lib.hasPrefix s.data.toList p.data.toList)]) ∧ w' = w := Any.strings_CutPrefix Tryz.lays103 s p w
end Go.Proofs.YtjgbfpkjkglfnaaGreatDoor.Lb
namespace Go.Proofs.YtjgbfpkjkglfnaaGreatDoor.Lb
open Jt
set_option linter.unusedSimpArgs false
set_option linter.unusedVariables false

theorem put_len (v : Int) : (Ut.putI v).length ≤ 4 := (Ut.putI_len v).2
theorem back_len (l : List UInt8) (k : Nat) : (backL l k).1.length ≤ (backL l k).2 := by
  unfold backL
  have hb : ∀ v, (bl (Ut.putI v)).length ≤ 4 := fun v => by unfold bl; rw [List.length_map]; exact put_len v
  repeat' split
  · simp
  · simp
  · simp
  · refine Nat.le_trans (hb _) ?_; show 4 ≤ 12; decide
  · refine Nat.le_trans (hb _) ?_; show 4 ≤ 6; decide
  · simp
theorem unit_len (l : List UInt8) (k : Nat) : (unitL l k).1.length ≤ (unitL l k).2 := by
  unfold unitL
  split
  · simp
  · split
    · split
      · simp
      · unfold cutL
        simp only [List.length_drop, List.length_take]
        omega
    · exact back_len l k
theorem textF_len (l : List UInt8) : ∀ (f k : Nat) (r : List UInt8 × Nat), textF l f k = some r → r.1.length + k ≤ r.2
  | 0, k, r, h => by cases h
  | f + 1, k, r, h => by
    unfold textF at h
    by_cases h1 : l.length ≤ k
    · rw [if_pos h1] at h; cases h
    · rw [if_neg h1] at h
      by_cases h2 : at0 l k = 34
      · rw [if_pos h2] at h; cases h; simp
      · rw [if_neg h2] at h
        by_cases h3 : (unitL l k).2 = 0
        · rw [if_pos h3] at h; cases h
        · rw [if_neg h3] at h
          cases hx : textF l f (k + (unitL l k).2) with
          | none => rw [hx] at h; cases h
          | some r' =>
            rw [hx] at h
            have := textF_len l f _ r' hx
            have h4 := unit_len l k
            cases h
            show ((unitL l k).1 ++ r'.1).length + k ≤ r'.2
            rw [List.length_append]
            omega
theorem tok_len {l : List UInt8} {k : Nat} : (tokA l k).1.t.length ≤ l.length := by
  unfold tokA
  split
  · simp [zT]
  · unfold tokP
    split
    · simp
    · split
      · cases hx : textA l (endP blkB l k + 1) with
        | none => simp [zT]
        | some r =>
          have h1 := textF_len l _ _ r hx
          have h2 := text_bd hx
          show r.1.length ≤ l.length
          omega
      · split
        · split
          · simp
          · simp [zT]
        · split
          · simp [zT]
          · simp
end Go.Proofs.YtjgbfpkjkglfnaaGreatDoor.Lb
namespace Go.Proofs.YtjgbfpkjkglfnaaGreatDoor.Lb
open Go.RowKit Ch Jt
set_option linter.unusedSimpArgs false
set_option linter.unusedVariables false

def PoQ (w : World) (e : Ending) (w' : World) : Prop := ∃ (b : Bool) (v : Value) (fs : List FB), e = .returned (.tuple #[v, .bool b]) ∧ OwF 44 w.heap.size v fs w' ∧ fs.length ≤ 121 ∧ (∀ x ∈ fs, x.1.size ≤ 120 ∧ x.2.size ≤ 120) ∧ Below w.heap.size w w'
theorem poq_nil (b : Bool) {w w' : World} (h : Below w.heap.size w w') : PoQ w (.returned (.tuple #[.slice none 0 0, .bool b])) w' := ⟨b, _, [], rfl, World.ownsRow_nil _ _ _ _, by simp, fun x hx => by simp at hx, h⟩
def strZ : Value → Nat
  | .string s => s.size
  | _ => 0
theorem trim_len (l p : List UInt8) : (Lib.trimPrefix l p).length ≤ l.length := by
  unfold Lib.trimPrefix
  split
  · rw [List.length_drop]; omega
  · exact Nat.le_refl _
theorem drp (s : ByteArray) (k : Nat) : s.extract k s.size = Jt.mkS (s.data.toList.drop k) := extN s k
set_option maxRecDepth 100000 in
set_option maxHeartbeats 8000000 in
theorem pairsOf_c (s : ByteArray) (w : World) (hE : Env w) (hs : s.size ≤ 120) : Calls Tryz.prog 23 #[.string s] w (PoQ w) := by
  have HE := Lib.hid hE
  have HPF := Lib.hid (pre_c s ⟨#[123]⟩)
  have h1 : (⟨(Lib.trimPrefix s.data.toList (ByteArray.mk #[123]).data.toList).toArray⟩ : ByteArray).size ≤ 120 := by
    have h := trim_len s.data.toList (ByteArray.mk #[123]).data.toList
    rw [← Lib.size_eq] at h
    show (Lib.trimPrefix s.data.toList (ByteArray.mk #[123]).data.toList).toArray.size ≤ 120
    rw [List.size_toArray]; omega
  obtain ⟨ip, hip, hpa, hpb, hpc⟩ := info_parts info2
  clear hE
  generalize (⟨(Lib.trimPrefix s.data.toList (ByteArray.mk #[123]).data.toList).toArray⟩ : ByteArray) = r0 at HPF h1
  generalize Lib.hasPrefix s.data.toList (ByteArray.mk #[123]).data.toList = m0 at HPF
  cases hb : (s.toList == [123, 125]) with
  | true =>
    go_enter Tryz.func23, Tryz.ntmps23
    go_wp2
    go_ret2
    exact poq_nil true (Below.refl _ _)
  | false =>
    go_enter Tryz.func23, Tryz.ntmps23
    go_wp2_with (go_at_call 40; refine (HPF.out _).mono ?_; rintro e w' ⟨rfl, hw⟩; rw [hw]; clear hw)
    clear hb HPF
    go_loopw [4, 5, 6] (fun lv rv mv wr => ∃ (fs : List FB) (r : ByteArray) (b : Bool), rv = .string r ∧ mv = .bool b ∧ r.size + fs.length ≤ 120 ∧ Hid (∀ x ∈ fs, x.1.size ≤ 120 ∧ x.2.size ≤ 120) ∧ Hid (OwF 44 w.heap.size lv fs wr) ∧ Hid (Below w.heap.size w wr)) (fun _ rv _ _ => strZ rv)
    case atStart => exact ⟨[], r0, m0, rfl, rfl, by simp; omega, Lib.hid (fun x hx => by simp at hx), Lib.hid (World.ownsRow_nil _ _ _ _), Lib.hid (Below.refl _ _)⟩
    case round =>
      obtain ⟨fs, r, b, rfl, rfl, hsum, HSM, HO, HB⟩ := hrel
      obtain ⟨ao, cp, hv⟩ := own_lenF HO.out
      subst hv
      cases b with
      | false =>
        go_wp2
        go_ret2
        exact poq_nil false HB.out
      | true =>
        have HSC := Lib.hid (fun W => scut_c r 61 W (by omega))
        unfold cutV at HSC
        obtain ⟨hc1, hc2⟩ := cutP_len 61 r.data.toList
        rw [← Lib.size_eq] at hc1 hc2
        have hz1 : (Jt.mkS (cutP 61 r.data.toList).1).size ≤ r.size := by rw [Jt.size_mkS]; exact hc1
        have hz2 : (Jt.mkS (cutP 61 r.data.toList).2).size ≤ r.size := by rw [Jt.size_mkS]; exact hc2
        clear hc1 hc2
        generalize Jt.mkS (cutP 61 r.data.toList).1 = nmv at HSC hz1
        generalize Jt.mkS (cutP 61 r.data.toList).2 = bh at HSC hz2
        generalize decide ((61 : UInt8) ∈ r.data.toList) = fd at HSC
        have HNX : Hid (∀ W, Env W → Calls Tryz.prog 42 #[.string bh, .int .i64 0] W fun e w' => e = ret2 (tkV (tokA bh.data.toList 0).1) (tokA bh.data.toList 0).2 ∧ Below W.heap.size W w') := fun W h => Next_c bh 0 W h (by omega) (Nat.zero_le _)
        have hbz := Lib.size_eq bh
        have HTB : Hid ((tokA bh.data.toList 0).2 = 0 → 0 < (tokA bh.data.toList 0).1.b ∧ (tokA bh.data.toList 0).1.b ≤ bh.size) := fun h => by rw [hbz]; exact tokA_bd (Nat.zero_le _) h
        have htl : (Jt.mkS (tokA bh.data.toList 0).1.t).size ≤ bh.size := by rw [Jt.size_mkS, hbz]; exact tok_len
        clear hbz
        unfold tkV at HNX
        revert HNX HTB htl
        generalize (tokA bh.data.toList 0).2 = er
        generalize Jt.mkS (tokA bh.data.toList 0).1.t = tx
        generalize (tokA bh.data.toList 0).1.k = tk
        generalize (tokA bh.data.toList 0).1.a = ta
        generalize (tokA bh.data.toList 0).1.b = tb
        generalize (tokA bh.data.toList 0).1.n = tn
        intro HNX HTB htl
        unfold tokV ret2 at HNX
        go_wp2_with (go_at_call 41; refine (HSC.out _).mono ?_; rintro e w' ⟨rfl, n, rfl⟩)
        have HBD : Hid (Below w.heap.size w (wr.drewN n)) := HB.out.trans ((bdrN wr n).mono HB.out.size)
        have HOD := Lib.hid (HO.out.go (bdrN wr n))
        generalize wr.drewN n = wd at HBD HOD ⊢
        clear HO HB HSC
        go_wp2_with fail
        refine (HNX.out wd (HE.out.go HBD.out)).mono ?_
        rintro e w2 ⟨rfl, hb2⟩
        have HB2 : Hid (Below w.heap.size w w2) := HBD.out.trans (hb2.mono HBD.out.size)
        have HO2 := Lib.hid (HOD.out.go hb2)
        clear hb2 HNX HBD HOD
        by_cases her : er = 0
        · subst her
          obtain ⟨htb0, htb1⟩ := HTB.out rfl
          by_cases hk7 : (tk : Int) = 7
          · have hk7' : ((tk : Int) != 7) = false := by rw [hk7]; rfl
            have hk7'' : ((tk : Int) == 7) = true := by rw [hk7]; rfl
            clear hk7
            obtain ⟨W2, hW2, hk2, hb2⟩ : ∃ W2, W2 = w2.alloc (.cells #[.int .i64 tk, .int .i64 ta, .int .i64 tb, .string tx, .int .i64 tn] 76) ∧ W2.heap[w2.heap.size]? = some (.cells #[.int .i64 tk, .int .i64 ta, .int .i64 tb, .string tx, .int .i64 tn] 76 (0, 0)) ∧ Below w2.heap.size w2 W2 := ⟨_, rfl, heap_alloc_new w2 _, (Below.refl _ _).alloc (Nat.le_refl _) _⟩
            obtain ⟨W3, hW3, hk3, hb3⟩ : ∃ W3, W3 = W2.alloc (.cells #[.string nmv, .string tx] 44) ∧ W3.heap[W2.heap.size]? = some (.cells #[.string nmv, .string tx] 44 (0, 0)) ∧ Below W2.heap.size W2 W3 := ⟨_, rfl, heap_alloc_new W2 _, (Below.refl _ _).alloc (Nat.le_refl _) _⟩
            have hl2 : w2.heap.size < W2.heap.size := (Array.getElem?_eq_some_iff.1 hk2).1
            have HW2 := Lib.hid hW2
            have HW3 := Lib.hid hW3
            have HB3 : Hid (Below w.heap.size w W3) := HB2.out.trans ((hb2.trans (hb3.mono hb2.size)).mono HB2.out.size)
            have HT3 : Hid (W3.heap[w2.heap.size]? = some (.cells #[.int .i64 tk, .int .i64 ta, .int .i64 tb, .string tx, .int .i64 tn] 76 (0, 0))) := (hb3.block _ hl2).trans hk2
            have HO3 := Lib.hid ((HO2.out.go hb2).go hb3)
            have HLT : Hid (∀ k, (Value.slice ao fs.length cp).ownBlock = some k → w.heap.size ≤ k ∧ k < w2.heap.size) := HO2.out.lt
            have DC := Lib.hid (two_cell hk3)
            have hsz2 : W2.heap.size = w2.heap.size + 1 := by rw [hW2]; simp
            have D3 : Hid (fs.length + 1 ≤ maxLen) := by show _ ≤ _; unfold maxLen; omega
            have D4 : Hid ((fs.length + 1) * 32 ≤ 140737488355328) := by show _ ≤ _; omega
            have E1 : Hid (w.heap.size ≤ W3.heap.size) := HB3.out.size
            rw [hsz2] at DC
            clear hW2 hW3 hk2 hk3 hb2 hb3 hsz2 HTB
            go_wp2_with (at_builtin; rw [← HW2.out, ← HW3.out]; refine wpList_append_own _ rfl _ _ 23 rfl w.heap.size 44 ip _ 2 32 Tryz.underlying23 hip hpa hpb hpc rfl (by decide) _ _ _ rfl HO3.out ⟨w2.heap.size + 1, 0, none⟩ 1 1 [.string nmv, .string tx] rfl rfl DC.out two_ok D3.out D4.out E1.out ?_)
            intro v1 V1 hown1 hgrow1 _
            have HBV : Hid (Below w.heap.size w V1) := HB3.out.grown hgrow1 HB3.out.size (fun k hk => (HLT.out k hk).1)
            have HTV : Hid (V1.heap[w2.heap.size]? = some (.cells #[.int .i64 tk, .int .i64 ta, .int .i64 tb, .string tx, .int .i64 tn] 76 (0, 0))) := (hgrow1.block _ (Array.getElem?_eq_some_iff.1 HT3.out).1 (fun e => by have := HLT.out _ e.symm; omega)).trans HT3.out
            have HOV : Hid (OwF 44 w.heap.size v1 (fs ++ [(nmv, tx)]) V1) := by
              show OwF _ _ _ _ _
              unfold OwF; rw [fC_snoc, List.length_append]
              exact hown1
            have HSV : Hid (∀ x ∈ fs ++ [(nmv, tx)], x.1.size ≤ 120 ∧ x.2.size ≤ 120) := fun x hx => by
              rcases List.mem_append.1 hx with h | h
              · exact HSM.out x h
              · rw [List.mem_singleton] at h; subst h; exact ⟨by show nmv.size ≤ 120; omega, by show tx.size ≤ 120; omega⟩
            have d2 := cell_of_row _ _ 2 _ _ _ HTV.out
            have htI : (tb : Int) ≤ (bh.size : Int) := by omega
            have htI0 : (0 : Int) ≤ (tb : Int) := by omega
            have hrz : (bh.extract tb bh.size).size ≤ bh.size - tb := by rw [ByteArray.size_extract]; omega
            clear hown1 hgrow1 HT3
            have HPX := Lib.hid (pre_c (bh.extract tb bh.size) ⟨#[44]⟩)
            have h4 : (⟨(Lib.trimPrefix (bh.extract tb bh.size).data.toList (ByteArray.mk #[44]).data.toList).toArray⟩ : ByteArray).size ≤ (bh.extract tb bh.size).size := by
              have h := trim_len (bh.extract tb bh.size).data.toList (ByteArray.mk #[44]).data.toList
              rw [← Lib.size_eq] at h
              show (Lib.trimPrefix (bh.extract tb bh.size).data.toList (ByteArray.mk #[44]).data.toList).toArray.size ≤ _
              rw [List.size_toArray]; exact h
            generalize (⟨(Lib.trimPrefix (bh.extract tb bh.size).data.toList (ByteArray.mk #[44]).data.toList).toArray⟩ : ByteArray) = r2 at HPX h4
            generalize Lib.hasPrefix (bh.extract tb bh.size).data.toList (ByteArray.mk #[44]).data.toList = m2 at HPX
            cases hq : ((bh.extract tb bh.size).toList == [125]) with
            | true =>
              clear HPX h4
              go_wp2
              go_ret2
              exact ⟨true, _, _, rfl, HOV.out, by rw [List.length_append]; show fs.length + 1 ≤ 121; omega, HSV.out, HBV.out⟩
            | false =>
              go_wp2_with (go_at_call 40; refine (HPX.out _).mono ?_; rintro e w5 ⟨rfl, hw⟩; rw [hw]; clear hw)
              go_roundw
              case rel => exact ⟨fs ++ [(nmv, tx)], r2, m2, rfl, rfl, by rw [List.length_append]; show r2.size + (fs.length + 1) ≤ 120; omega, HSV, HOV, HBV⟩
              case measure => show r2.size < r.size; omega
          · have hk7' : ((tk : Int) != 7) = true := by simp [hk7]
            have hk7'' : ((tk : Int) == 7) = false := beq_eq_false_iff_ne.2 hk7
            clear hk7
            go_wp2
            go_ret2
            exact poq_nil false (HB2.out.alloc (by exact HB2.out.size) _)
        · have her1 : (er != 0) = true := by simp [her]
          have her2 : (er == 0) = false := beq_eq_false_iff_ne.2 her
          clear her
          go_wp2
          go_ret2
          exact poq_nil false (HB2.out.alloc (by exact HB2.out.size) _)
end Go.Proofs.YtjgbfpkjkglfnaaGreatDoor.Lb
namespace Go.Proofs.YtjgbfpkjkglfnaaGreatDoor.Lb
open Go.RowKit Ch Jt
set_option linter.unusedSimpArgs false
set_option linter.unusedVariables false

theorem rd_set {a b : Option Addr} {n c l m q : Nat} {gs : List FB} {w : World} {T : TypeId} {v : Value} (h : RdF (.slice a n c) gs w) (hk : w.heap[q]? = some (.cells #[.slice b l m] T (0, 0))) : RdF (.slice a n c) gs (w.setCell ⟨q, 0, none⟩ v) := by
  obtain ⟨ao, cp, e, hh⟩ := h
  refine ⟨ao, cp, e, fun h0 => ?_⟩
  obtain ⟨g, off, rfl, hg, hat⟩ := hh h0
  have hne : g ≠ q := by
    rintro rfl
    have h1 := (hat 0 h0).1
    rw [cell_of_row _ _ _ _ _ _ hk] at h1
    cases off with
    | zero => simp at h1
    | succ k => simp at h1
  refine ⟨g, off, rfl, by simpa using hg, fun i hi => ?_⟩
  obtain ⟨a0, a1⟩ := hat i hi
  exact ⟨by rw [World.cell?_setCell_other _ _ _ _ (by intro h; injection h with h; exact hne h.symm)]; exact a0, by rw [World.cell?_setCell_other _ _ _ _ (by intro h; injection h with h; exact hne h.symm)]; exact a1⟩
def PrQ (s : ByteArray) (w : World) (e : Ending) (w' : World) : Prop := ∃ (ao : Option Addr) (cap : Nat) (gs : List FB) (z : Int), e = .returned (.tuple #[.agg #[.slice ao gs.length cap], .int .i64 z]) ∧ Pl ao ∧ ((z = 3 ∧ gs = []) ∨ (z = 0 ∧ Jt.mkS (txtL gs) = s ∧ Asc gs ∧ Onc gs ∧ gs.any badB = false)) ∧ gs.length ≤ 121 ∧ (∀ x ∈ gs, x.1.size ≤ 120 ∧ x.2.size ≤ 120) ∧ RdF (.slice ao gs.length cap) gs w' ∧ Below w.heap.size w w'
theorem prq_no (s : ByteArray) {w w' : World} (h : Below w.heap.size w w') : PrQ s w (.returned (.tuple #[.agg #[.slice none 0 0], .int .i64 3])) w' := ⟨none, 0, [], 3, rfl, .inl rfl, .inl ⟨rfl, rfl⟩, by simp, fun x hx => by simp at hx, ⟨none, 0, rfl, fun h => absurd h (Nat.lt_irrefl _)⟩, h⟩
theorem prq_ok {s : ByteArray} {ao : Option Addr} {cap : Nat} {gs : List FB} {w w' : World} (hp : Pl ao) (h1 : Jt.mkS (txtL gs) = s) (h2 : Asc gs) (h3 : Onc gs) (h4 : gs.any badB = false) (h5 : gs.length ≤ 121) (h6 : ∀ x ∈ gs, x.1.size ≤ 120 ∧ x.2.size ≤ 120) (h7 : RdF (.slice ao gs.length cap) gs w') (hb : Below w.heap.size w w') : PrQ s w (.returned (.tuple #[.agg #[.slice ao gs.length cap], .int .i64 0])) w' := ⟨ao, cap, gs, 0, rfl, hp, .inr ⟨rfl, h1, h2, h3, h4⟩, h5, h6, h7, hb⟩
theorem ofA_ok {fs : List FB} (h : ofZ fs = 0) : (ofA fs).any badB = false := by
  rw [List.any_eq_false]
  intro x hx
  simp [(ofA_mem hx).2]
set_option maxRecDepth 100000 in
set_option maxHeartbeats 8000000 in
theorem Parse_c (s : ByteArray) (w : World) (hE : Ev w) (hE2 : Env w) (hs : s.size ≤ 120) : Calls Tryz.prog 8 #[.string s] w (PrQ s w) := by
  obtain ⟨W0, hW0, hk0, hb0⟩ : ∃ W0, W0 = w.alloc (.cells #[.slice none 0 0] 27) ∧ W0.heap[w.heap.size]? = some (.cells #[.slice none 0 0] 27 (0, 0)) ∧ Below w.heap.size w W0 := ⟨_, rfl, heap_alloc_new w _, (Below.refl _ _).alloc (Nat.le_refl _) _⟩
  have hl0 : w.heap.size < W0.heap.size := (Array.getElem?_eq_some_iff.1 hk0).1
  have HW0 := Lib.hid hW0
  have HK0 := Lib.hid hk0
  have HB0 := Lib.hid hb0
  have HE := Lib.hid hE
  have HPO := Lib.hid (pairsOf_c s W0 (hE2.go hb0) hs)
  clear hW0 hk0 hb0 hE hE2
  go_enter Tryz.func8, Tryz.ntmps8
  go_wp2_with fail
  rw [← HW0.out]
  clear HW0
  (with_reducible refine HPO.out.mono ?_)
  rintro e w1 ⟨b, v, fs, rfl, ho, hln, hsz, hb1⟩
  have HB1 : Hid (Below w.heap.size w w1) := HB0.out.trans (hb1.mono HB0.out.size)
  have HK1 : Hid (w1.heap[w.heap.size]? = some (.cells #[.slice none 0 0] 27 (0, 0))) := (hb1.block _ hl0).trans HK0.out
  have HSZ := Lib.hid hsz
  obtain ⟨a1, c1, hv⟩ := own_lenF ho
  subst hv
  have HR1 := Lib.hid ho.rd
  have d0 := cell_of_row _ _ 0 _ _ _ HK1.out
  have z0 := frz HK1.out 0
  clear ho hb1 hsz HPO
  cases b with
  | false =>
    have e0 := cell_of_row _ _ 0 _ _ _ (set1 (.slice none 0 0) HK1.out)
    have HBS : Hid (Below w.heap.size w (w1.setCell ⟨w.heap.size, 0, none⟩ (.slice none 0 0))) := HB1.out.setCell (p := ⟨w.heap.size, 0, none⟩) (Nat.le_refl _) _
    go_wp2
    (with_reducible refine bodyPost_ret (v := .tuple #[.agg #[.slice none 0 0], .int .i64 3]) (by simp [results, Tryz.results8, go_sem, e0]) rfl (prq_no s HBS.out))
  | true =>
    have HSS : Hid (∀ x ∈ fs, smallF x) := fun x hx => by have := HSZ.out x hx; exact ⟨by omega, by omega⟩
    have HOF := Lib.hid (Of_c (.slice a1 fs.length c1) fs w1 (HE.out.go HB1.out) HR1.out (by omega) HSS.out)
    have hlw : w.heap.size < w1.heap.size := (Array.getElem?_eq_some_iff.1 HK1.out).1
    clear d0 z0
    go_wp2_with fail
    (with_reducible refine HOF.out.mono ?_)
    intro e w2 h2
    obtain ⟨a2, c2, hpl, rfl, hr2, hb2⟩ := of_uni h2
    obtain ⟨W3, hW3, hk3, hbw3⟩ : ∃ W3, W3 = w2.alloc (.cells #[.slice a2 (ofA fs).length c2] 27) ∧ W3.heap[w2.heap.size]? = some (.cells #[.slice a2 (ofA fs).length c2] 27 (0, 0)) ∧ Below w2.heap.size w2 W3 := ⟨_, rfl, heap_alloc_new w2 _, (Below.refl _ _).alloc (Nat.le_refl _) _⟩
    have hl2 : w.heap.size < w2.heap.size := Nat.lt_of_lt_of_le hlw hb2.size
    have HK2 : Hid (w2.heap[w.heap.size]? = some (.cells #[.slice none 0 0] 27 (0, 0))) := (hb2.block _ hlw).trans HK1.out
    have HB2 : Hid (Below w.heap.size w w2) := HB1.out.trans (hb2.mono HB1.out.size)
    have HB3 : Hid (Below w.heap.size w W3) := HB1.out.trans ((hb2.trans (hbw3.mono hb2.size)).mono HB1.out.size)
    have HK3 : Hid (W3.heap[w.heap.size]? = some (.cells #[.slice none 0 0] 27 (0, 0))) := (hbw3.block _ hl2).trans ((hb2.block _ hlw).trans HK1.out)
    have HR3 := Lib.hid (hr2.go hbw3)
    have HW3 := Lib.hid hW3
    have HT3 := Lib.hid hk3
    have HPL := Lib.hid hpl
    have hgl := ofA_len fs
    have HGZ : Hid (∀ x ∈ ofA fs, x.1.size ≤ 120 ∧ x.2.size ≤ 120) := fun x hx => HSZ.out x (ofA_mem hx).1
    have HGV : Hid (∀ x ∈ ofA fs, vldB x.2.data.toList = true) := fun x hx => (bad_vld (ofA_mem hx).2).1
    have HZC := Lib.hid (ofz_cases fs)
    have HAN := Lib.hid (ofA_ok (fs := fs))
    have d0 := cell_of_row _ _ 0 _ _ _ HK3.out
    have z0 := frz HK3.out 0
    have d1 := cell_of_row _ _ 0 _ _ _ HT3.out
    clear h2 hr2 hb2 hW3 hk3 hbw3 hpl HOF HSS HSZ
    revert HR3 HW3 HT3 hgl HGZ HGV HZC HAN d1
    generalize ofA fs = gs
    generalize ofZ fs = z
    intro HR3 HW3 HT3 hgl HGZ HGV HZC HAN d1
    rcases HZC.out with ⟨rfl, ha, hon⟩ | ⟨hz, rfl⟩
    · have HA := Lib.hid ha
      have HO := Lib.hid hon
      have HAN2 := Lib.hid (HAN.out rfl)
      have hgl2 : gs.length ≤ 121 := by omega
      clear ha hon HZC HAN
      have HSC := Lib.hid (String_c a2 c2 gs W3 (HE.out.go HB3.out) HR3.out (by omega) (fun x hx => by have := HGZ.out x hx; exact ⟨by omega, by omega⟩) HGV.out)
      generalize htx : Jt.mkS (txtL gs) = tx at HSC
      have HTX := Lib.hid htx
      clear htx
      go_wp2_with fail
      rw [← HW3.out]
      clear HW3
      (with_reducible refine HSC.out.mono ?_)
      rintro e w4 ⟨rfl, hb4⟩
      have HB4 : Hid (Below w.heap.size w w4) := HB3.out.trans (hb4.mono HB3.out.size)
      have HK4 : Hid (w4.heap[w.heap.size]? = some (.cells #[.slice none 0 0] 27 (0, 0))) := (hb4.block _ (Array.getElem?_eq_some_iff.1 HK3.out).1).trans HK3.out
      have HT4 : Hid (w4.heap[w2.heap.size]? = some (.cells #[.slice a2 gs.length c2] 27 (0, 0))) := (hb4.block _ (Array.getElem?_eq_some_iff.1 HT3.out).1).trans HT3.out
      have HR4 := Lib.hid (HR3.out.go hb4)
      clear hb4 d0 z0 d1 HSC HR3 HT3 HK3
      have d0 := cell_of_row _ _ 0 _ _ _ HK4.out
      have z0 := frz HK4.out 0
      have d1 := cell_of_row _ _ 0 _ _ _ HT4.out
      by_cases heq : tx = s
      · subst heq
        have e0 := cell_of_row _ _ 0 _ _ _ (set1 (.slice a2 gs.length c2) HK4.out)
        have HBS : Hid (Below w.heap.size w (w4.setCell ⟨w.heap.size, 0, none⟩ (.slice a2 gs.length c2))) := HB4.out.setCell (p := ⟨w.heap.size, 0, none⟩) (Nat.le_refl _) _
        have HRS := Lib.hid (rd_set (v := .slice a2 gs.length c2) HR4.out HK4.out)
        go_wp2
        (with_reducible refine bodyPost_ret (v := .tuple #[.agg #[.slice a2 gs.length c2], .int .i64 0]) (by simp [results, Tryz.results8, go_sem, e0]) rfl (prq_ok HPL.out HTX.out HA.out HO.out HAN2.out hgl2 HGZ.out HRS.out HBS.out))
      · have hne : (tx.toList == s.toList) = false := by
          rw [Lib.toList_data, Lib.toList_data]
          exact beq_eq_false_iff_ne.2 (fun h => heq (ba_ext h))
        have e0 := cell_of_row _ _ 0 _ _ _ (set1 (.slice none 0 0) HK4.out)
        have HBS : Hid (Below w.heap.size w (w4.setCell ⟨w.heap.size, 0, none⟩ (.slice none 0 0))) := HB4.out.setCell (p := ⟨w.heap.size, 0, none⟩) (Nat.le_refl _) _
        clear heq
        go_wp2
        (with_reducible refine bodyPost_ret (v := .tuple #[.agg #[.slice none 0 0], .int .i64 3]) (by simp [results, Tryz.results8, go_sem, e0]) rfl (prq_no s HBS.out))
    · have hz0 : z ≠ 0 := by rcases hz with h | h <;> omega
      have hzd : (z == 0) = false := beq_eq_false_iff_ne.2 hz0
      have hzd2 : (z != 0) = true := by simp [hz0]
      rw [show ([] : List FB).length = 0 from rfl] at HW3
      have hk' := set1 (.slice none 0 0) HK2.out
      have hbv := (Below.refl (w2.setCell ⟨w.heap.size, 0, none⟩ (.slice none 0 0)).heap.size (w2.setCell ⟨w.heap.size, 0, none⟩ (.slice none 0 0))).alloc (Nat.le_refl _) (.cells #[.slice a2 0 c2] 27)
      have e0 := cell_of_row _ _ 0 _ _ _ ((hbv.block _ (Array.getElem?_eq_some_iff.1 hk').1).trans hk')
      have HBS : Hid (Below w.heap.size w ((w2.setCell ⟨w.heap.size, 0, none⟩ (.slice none 0 0)).alloc (.cells #[.slice a2 0 c2] 27))) := (HB2.out.setCell (p := ⟨w.heap.size, 0, none⟩) (Nat.le_refl _) _).trans (hbv.mono (by simpa using HB2.out.size))
      clear hk' hbv
      clear HZC hz d1 HAN HR3 HT3
      have hw := HW3.out
      clear HW3
      subst hw
      go_wp2
      (with_reducible refine bodyPost_ret (v := .tuple #[.agg #[.slice none 0 0], .int .i64 3]) (by simp [results, Tryz.results8, go_sem, e0]) rfl (prq_no s HBS.out))
end Go.Proofs.YtjgbfpkjkglfnaaGreatDoor.Lb
namespace Go.Proofs.YtjgbfpkjkglfnaaGreatDoor.Lb
open Go.RowKit Ch Jt Go.ChangeShapes Go.WideShapes
set_option linter.unusedSimpArgs false
set_option linter.unusedVariables false

def LS (w : World) (q : Nat) (a1 ax : Option Addr) (c1 cx : Nat) (gs : List FB) (V : World) : Prop := Below w.heap.size w V ∧ V.heap[q]? = some (.cells #[.slice a1 gs.length c1] 27 (0, 0)) ∧ RdF (.slice a1 gs.length c1) gs V ∧ RdF (.slice ax gs.length cx) gs V
theorem LS.b {w : World} {q : Nat} {a1 ax : Option Addr} {c1 cx : Nat} {gs : List FB} {V : World} (h : LS w q a1 ax c1 cx gs V) : Below w.heap.size w V := h.1
theorem LS.r {w : World} {q : Nat} {a1 ax : Option Addr} {c1 cx : Nat} {gs : List FB} {V : World} (h : LS w q a1 ax c1 cx gs V) : RdF (.slice a1 gs.length c1) gs V := h.2.2.1
theorem LS.x {w : World} {q : Nat} {a1 ax : Option Addr} {c1 cx : Nat} {gs : List FB} {V : World} (h : LS w q a1 ax c1 cx gs V) : RdF (.slice ax gs.length cx) gs V := h.2.2.2
theorem LS.c {w : World} {q : Nat} {a1 ax : Option Addr} {c1 cx : Nat} {gs : List FB} {V : World} (h : LS w q a1 ax c1 cx gs V) : V.cell? ⟨q, 0, none⟩ = some (.slice a1 gs.length c1) := cell_of_row _ _ 0 _ _ _ h.2.1
theorem LS.go {w : World} {q : Nat} {a1 ax : Option Addr} {c1 cx : Nat} {gs : List FB} {V V2 : World} (h : LS w q a1 ax c1 cx gs V) (hb : Below V.heap.size V V2) : LS w q a1 ax c1 cx gs V2 :=
  ⟨h.1.trans (hb.mono h.1.size), (hb.block _ (Array.getElem?_eq_some_iff.1 h.2.1).1).trans h.2.1, h.2.2.1.go hb, h.2.2.2.go hb⟩
set_option maxRecDepth 100000 in
set_option maxHeartbeats 16000000 in
theorem walkA (s : ByteArray) (w : World) (hs : s.size ≤ maxLen) (hE : Ev w) (hE2 : Env w) :
    Calls Tryz.prog 4 #[.string s] w fun e w' => e = .returned (.bool true) ∧ Below w.heap.size w w' := by
  have HE := Lib.hid hE
  have HE2 := Lib.hid hE2
  unfold maxLen at hs
  clear hE hE2
  by_cases hc : 120 < s.size
  · have hc' : (120 : Int) < (s.size : Int) := by omega
    have htz : (s.extract 0 120).size ≤ 120 := by rw [ByteArray.size_extract]; omega
    go_enter Tryz.func4, Tryz.ntmps4
    go_wp2_with fail
    generalize s.extract 0 120 = t at htz ⊢
    have HPC := Lib.hid (Parse_c t w HE.out HE2.out htz)
    go_wp2_with fail
    (with_reducible refine HPC.out.mono ?_)
    rintro e w1 ⟨ao, cp, gs, z, rfl, hpl, hz, hgl, hsz, hr, hb1⟩
    obtain ⟨W1, hW1, hk1, hbw1⟩ : ∃ W1, W1 = w1.alloc (.cells #[.slice ao gs.length cp] 27) ∧ W1.heap[w1.heap.size]? = some (.cells #[.slice ao gs.length cp] 27 (0, 0)) ∧ Below w1.heap.size w1 W1 := ⟨_, rfl, heap_alloc_new w1 _, (Below.refl _ _).alloc (Nat.le_refl _) _⟩
    have HL1 : Hid (LS w w1.heap.size ao ao cp cp gs W1) := ⟨hb1.trans (hbw1.mono hb1.size), hk1, hr.go hbw1, hr.go hbw1⟩
    have HW1 := Lib.hid hW1
    have HPL := Lib.hid hpl
    have HSZ := Lib.hid hsz
    have d := HL1.out.c
    clear hW1 hk1 hbw1 hr hb1 hpl hsz HPC
    rcases hz with ⟨rfl, rfl⟩ | ⟨rfl, htx, ha, ho, hbd⟩
    · have HLN := Lib.hid (Len_c ao 0 cp W1 (by decide))
      rw [show ([] : List FB).length = 0 from rfl] at HW1
      go_wp2_with fail
      rw [← HW1.out]
      clear HW1
      (with_reducible refine HLN.out.mono ?_)
      rintro e w2 ⟨rfl, hb⟩
      have HL2 := Lib.hid (HL1.out.go hb)
      clear hb HLN d
      have HAW := Lib.hid (awake_c w2 (HE.out.go HL2.out.b))
      go_wp2_with fail
      (with_reducible refine HAW.out.mono ?_)
      rintro e w3 ⟨rfl, hb⟩
      have HL3 := Lib.hid (HL2.out.go hb)
      clear hb HAW
      go_wp2
      go_ret
      exact ⟨rfl, HL3.out.b⟩
    · have e1 : ofA gs = gs := by
        unfold ofA
        rw [if_neg (by rw [hbd]; decide), if_pos ho]
        have h := srt_one (List.Perm.refl gs) ha ho
        first | exact h | exact h.symm
      have e2 : ofZ gs = 0 := by unfold ofZ; rw [if_neg (by rw [hbd]; decide), if_pos ho]
      have HSS : Hid (∀ x ∈ gs, smallF x) := fun x hx => by have := HSZ.out x hx; exact ⟨by omega, by omega⟩
      have HSH : Hid (∀ x ∈ gs, shortF x) := fun x hx => by have := HSZ.out x hx; exact ⟨by omega, by omega⟩
      have HC1 := Lib.hid (fun W h1 => Plain_c ao cp gs W h1 HPL.out (by omega))
      have HC2 := Lib.hid (fun a5 c5 W h1 => OfR_c a5 c5 gs W h1 (by omega) HSS.out)
      unfold OfW at HC2
      rw [e1, e2] at HC2
      have HC3 := Lib.hid (fun a5 c5 a6 c6 W h1 h2 => RSame_c a5 a6 c5 c6 gs W h1 h2 (by omega))
      have HC4 := Lib.hid (fun a5 c5 W h1 => TextR_c a5 c5 gs W h1 (by omega) HSH.out)
      rw [htx] at HC4
      clear e1 e2 htx ha ho hbd
      go_wp2_with fail
      rw [← HW1.out]
      clear HW1
      (with_reducible refine (HC1.out W1 HL1.out.r).mono ?_)
      rintro e w2 ⟨v2, rfl, ho2, hb⟩
      obtain ⟨a2, c2, hv⟩ := own_lenF ho2
      subst hv
      have HL2 := Lib.hid (HL1.out.go hb)
      have HOF := Lib.hid (HC2.out a2 c2 w2 ho2.rd)
      clear hb ho2 d
      go_wp2_with fail
      (with_reducible refine HOF.out.mono ?_)
      rintro e w3 ⟨v3, rfl, ho3, hb⟩
      obtain ⟨a3, c3, hv⟩ := own_lenF ho3
      subst hv
      have HL3 := Lib.hid (HL2.out.go hb)
      have HY3 := Lib.hid ho3.rd
      clear hb ho3 HOF HC2
      have d := HL3.out.c
      go_wp2_with fail
      (with_reducible refine (HC1.out w3 HL3.out.r).mono ?_)
      rintro e w4 ⟨v4, rfl, ho4, hb⟩
      obtain ⟨a4, c4, hv⟩ := own_lenF ho4
      subst hv
      have HL4 := Lib.hid (HL3.out.go hb)
      have HY4 := Lib.hid (HY3.out.go hb)
      have HSM := Lib.hid (HC3.out a3 c3 a4 c4 w4 HY4.out ho4.rd)
      clear hb ho4 d HY3 HC1 HC3
      go_wp2_with fail
      (with_reducible refine HSM.out.mono ?_)
      rintro e w5 ⟨rfl, hb⟩
      have HL5 := Lib.hid (HL4.out.go hb)
      have HTX := Lib.hid (HC4.out a3 c3 w5 (HY4.out.go hb))
      clear hb HSM HY4 HC4
      go_wp2_with fail
      (with_reducible refine HTX.out.mono ?_)
      rintro e w6 ⟨rfl, hb⟩
      have HL6 := Lib.hid (HL5.out.go hb)
      clear hb HTX
      have HAW := Lib.hid (awake_c w6 (HE.out.go HL6.out.b))
      go_wp2_with fail
      (with_reducible refine HAW.out.mono ?_)
      rintro e w7 ⟨rfl, hb⟩
      have HL7 := Lib.hid (HL6.out.go hb)
      clear hb HAW
      go_wp2
      go_ret
      exact ⟨rfl, HL7.out.b⟩
  · have hc' : ¬ (120 : Int) < (s.size : Int) := by omega
    have htz : s.size ≤ 120 := by omega
    go_enter Tryz.func4, Tryz.ntmps4
    have HPC := Lib.hid (Parse_c s w HE.out HE2.out htz)
    go_wp2_with fail
    (with_reducible refine HPC.out.mono ?_)
    rintro e w1 ⟨ao, cp, gs, z, rfl, hpl, hz, hgl, hsz, hr, hb1⟩
    obtain ⟨W1, hW1, hk1, hbw1⟩ : ∃ W1, W1 = w1.alloc (.cells #[.slice ao gs.length cp] 27) ∧ W1.heap[w1.heap.size]? = some (.cells #[.slice ao gs.length cp] 27 (0, 0)) ∧ Below w1.heap.size w1 W1 := ⟨_, rfl, heap_alloc_new w1 _, (Below.refl _ _).alloc (Nat.le_refl _) _⟩
    have HL1 : Hid (LS w w1.heap.size ao ao cp cp gs W1) := ⟨hb1.trans (hbw1.mono hb1.size), hk1, hr.go hbw1, hr.go hbw1⟩
    have HW1 := Lib.hid hW1
    have HPL := Lib.hid hpl
    have HSZ := Lib.hid hsz
    have d := HL1.out.c
    clear hW1 hk1 hbw1 hr hb1 hpl hsz HPC
    rcases hz with ⟨rfl, rfl⟩ | ⟨rfl, htx, ha, ho, hbd⟩
    · have HLN := Lib.hid (Len_c ao 0 cp W1 (by decide))
      rw [show ([] : List FB).length = 0 from rfl] at HW1
      go_wp2_with fail
      rw [← HW1.out]
      clear HW1
      (with_reducible refine HLN.out.mono ?_)
      rintro e w2 ⟨rfl, hb⟩
      have HL2 := Lib.hid (HL1.out.go hb)
      clear hb HLN d
      have HAW := Lib.hid (awake_c w2 (HE.out.go HL2.out.b))
      go_wp2_with fail
      (with_reducible refine HAW.out.mono ?_)
      rintro e w3 ⟨rfl, hb⟩
      have HL3 := Lib.hid (HL2.out.go hb)
      clear hb HAW
      go_wp2
      go_ret
      exact ⟨rfl, HL3.out.b⟩
    · have e1 : ofA gs = gs := by
        unfold ofA
        rw [if_neg (by rw [hbd]; decide), if_pos ho]
        have h := srt_one (List.Perm.refl gs) ha ho
        first | exact h | exact h.symm
      have e2 : ofZ gs = 0 := by unfold ofZ; rw [if_neg (by rw [hbd]; decide), if_pos ho]
      have HSS : Hid (∀ x ∈ gs, smallF x) := fun x hx => by have := HSZ.out x hx; exact ⟨by omega, by omega⟩
      have HSH : Hid (∀ x ∈ gs, shortF x) := fun x hx => by have := HSZ.out x hx; exact ⟨by omega, by omega⟩
      have HC1 := Lib.hid (fun W h1 => Plain_c ao cp gs W h1 HPL.out (by omega))
      have HC2 := Lib.hid (fun a5 c5 W h1 => OfR_c a5 c5 gs W h1 (by omega) HSS.out)
      unfold OfW at HC2
      rw [e1, e2] at HC2
      have HC3 := Lib.hid (fun a5 c5 a6 c6 W h1 h2 => RSame_c a5 a6 c5 c6 gs W h1 h2 (by omega))
      have HC4 := Lib.hid (fun a5 c5 W h1 => TextR_c a5 c5 gs W h1 (by omega) HSH.out)
      rw [htx] at HC4
      clear e1 e2 htx ha ho hbd
      go_wp2_with fail
      rw [← HW1.out]
      clear HW1
      (with_reducible refine (HC1.out W1 HL1.out.r).mono ?_)
      rintro e w2 ⟨v2, rfl, ho2, hb⟩
      obtain ⟨a2, c2, hv⟩ := own_lenF ho2
      subst hv
      have HL2 := Lib.hid (HL1.out.go hb)
      have HOF := Lib.hid (HC2.out a2 c2 w2 ho2.rd)
      clear hb ho2 d
      go_wp2_with fail
      (with_reducible refine HOF.out.mono ?_)
      rintro e w3 ⟨v3, rfl, ho3, hb⟩
      obtain ⟨a3, c3, hv⟩ := own_lenF ho3
      subst hv
      have HL3 := Lib.hid (HL2.out.go hb)
      have HY3 := Lib.hid ho3.rd
      clear hb ho3 HOF HC2
      have d := HL3.out.c
      go_wp2_with fail
      (with_reducible refine (HC1.out w3 HL3.out.r).mono ?_)
      rintro e w4 ⟨v4, rfl, ho4, hb⟩
      obtain ⟨a4, c4, hv⟩ := own_lenF ho4
      subst hv
      have HL4 := Lib.hid (HL3.out.go hb)
      have HY4 := Lib.hid (HY3.out.go hb)
      have HSM := Lib.hid (HC3.out a3 c3 a4 c4 w4 HY4.out ho4.rd)
      clear hb ho4 d HY3 HC1 HC3
      go_wp2_with fail
      (with_reducible refine HSM.out.mono ?_)
      rintro e w5 ⟨rfl, hb⟩
      have HL5 := Lib.hid (HL4.out.go hb)
      have HTX := Lib.hid (HC4.out a3 c3 w5 (HY4.out.go hb))
      clear hb HSM HY4 HC4
      go_wp2_with fail
      (with_reducible refine HTX.out.mono ?_)
      rintro e w6 ⟨rfl, hb⟩
      have HL6 := Lib.hid (HL5.out.go hb)
      clear hb HTX
      have HAW := Lib.hid (awake_c w6 (HE.out.go HL6.out.b))
      go_wp2_with fail
      (with_reducible refine HAW.out.mono ?_)
      rintro e w7 ⟨rfl, hb⟩
      have HL7 := Lib.hid (HL6.out.go hb)
      clear hb HAW
      go_wp2
      go_ret
      exact ⟨rfl, HL7.out.b⟩
end Go.Proofs.YtjgbfpkjkglfnaaGreatDoor.Lb

/- Contracts that package page leans on: the library's Cut, CutPrefix and Split at one byte, names of labels, short; for texts of at most a thousand bytes. -/
import Derived.Test.YtbafjilhopgjmaaDoorNuBack
import Derived.Test.YtbafjilhopgjmaaDoorChCuts
import Derived.WalkSmall
import Derived.Deep.QuietTactic
import Derived.BigQuiet
import Derived.Deep.RegionHeld3
import Derived.Shelf.Small.Wraps
import Derived.Shelf.Strings.Search2
import Derived.Shelf.Strings.Split
namespace Go.Proofs.YtbafjilhopgjmaaDoor.Pg
open Go.RowKit Ch
set_option linter.unusedSimpArgs false
set_option linter.unusedVariables false

theorem idx_neg {l : List UInt8} {c : UInt8} (h : ¬ c ∈ l) : Lib.indexByte l c = -1 := by
  have h1 := Lib.indexByte_ge l c
  have h2 : ¬ 0 ≤ Lib.indexByte l c := fun g => h ((Ch.idx_ge l c).1 g)
  omega
theorem ext0 (s : ByteArray) (k : Nat) : s.extract 0 k = mkS (s.data.toList.take k) := mkS_of (by rw [Lib.extract_data]; simp)
theorem extN (s : ByteArray) (k : Nat) : s.extract k s.size = mkS (s.data.toList.drop k) := mkS_of (by rw [Lib.extract_data, List.take_of_length_le (by rw [List.length_drop, ← Lib.size_eq]; exact Nat.le_refl _)])
def cutP (c : UInt8) (l : List UInt8) : List UInt8 × List UInt8 := (l.takeWhile (· ≠ c), (l.dropWhile (· ≠ c)).drop 1)
theorem cutP_no {c : UInt8} {l : List UInt8} (h : ¬ c ∈ l) : cutP c l = (l, []) := by
  unfold cutP
  have hp : ∀ x ∈ l, (decide (x ≠ c)) = true := fun x hx => by simp; exact fun e => h (e ▸ hx)
  have h1 := List.takeWhile_append_of_pos (l₂ := []) hp
  have h2 := List.dropWhile_append_of_pos (l₂ := []) hp
  rw [List.append_nil] at h1 h2
  rw [h1, h2]; simp
theorem cutP_at {c : UInt8} {p q : List UInt8} (h : ¬ c ∈ p) : cutP c (p ++ c :: q) = (p, q) := by
  unfold cutP
  have hp : ∀ x ∈ p, (decide (x ≠ c)) = true := fun x hx => by simp; exact fun e => h (e ▸ hx)
  rw [List.takeWhile_append_of_pos hp, List.dropWhile_append_of_pos hp]
  simp
theorem cutP_len (c : UInt8) (l : List UInt8) : (cutP c l).1.length ≤ l.length ∧ (cutP c l).2.length ≤ l.length := by
  by_cases h : c ∈ l
  · obtain ⟨p, q, e, hp⟩ := List.eq_append_cons_of_mem h
    subst e
    rw [cutP_at hp]; simp; omega
  · rw [cutP_no h]; simp
def cutV (c : UInt8) (l : List UInt8) : Ending := .returned (.tuple #[.string (mkS (cutP c l).1), .string (mkS (cutP c l).2), .bool (decide (c ∈ l))])
set_option maxRecDepth 100000 in
set_option maxHeartbeats 2000000 in
theorem lcut_c (s : ByteArray) (c : UInt8) (w : World) (hs : s.size ≤ 1000) : Calls Tryd.prog 28 #[.string s, .string ⟨#[c]⟩] w fun e w' => e = cutV c s.data.toList ∧ ∃ n, w' = w.drewN n := by
  have HI := Lib.hid (fun W => Any.stringslite_Index_one Tryd.lays219 s c W)
  have hsl := Lib.hid (Lib.size_eq s)
  unfold cutV
  by_cases h : c ∈ s.data.toList
  · obtain ⟨k, hk, hkl, hnm, hsp⟩ := Ch.idx_split s.data.toList c ((Ch.idx_ge _ c).2 h)
    rw [hk] at HI
    have hcp : cutP c s.data.toList = (s.data.toList.take k, s.data.toList.drop (k + 1)) := by
      have := cutP_at (c := c) (p := s.data.toList.take k) (q := s.data.toList.drop (k + 1)) hnm
      rw [← hsp] at this; exact this
    rw [hcp, decide_eq_true h]
    rw [← hsl.out] at hkl
    have HE1 := Lib.hid (ext0 s k)
    have HE2 := Lib.hid (extN s (k + 1))
    have c1 : (0 : Int) ≤ (k : Int) := by omega
    have c2 : (k : Int) ≤ (s.size : Int) := by omega
    have c3 : (0 : Int) ≤ (k : Int) + 1 := by omega
    have c4 : (k : Int) + 1 ≤ (s.size : Int) := by omega
    have hs1 : (ByteArray.mk #[c]).size = 1 := rfl
    clear hk hnm hsp hcp h
    go_enter Tryd.func28, Tryd.ntmps28
    go_wp2_with (go_at_call 43; refine (HI.out _).mono ?_; rintro e w' ⟨rfl, rfl⟩)
    go_quiet (fail)
    go_wp2
    go_ret3
    exact ⟨by rw [← HE1.out, ← HE2.out]; rfl, _, rfl⟩
  · rw [idx_neg h] at HI
    rw [cutP_no h, decide_eq_false h]
    have HE : Hid (s = mkS s.data.toList) := mkS_of rfl
    clear h
    go_enter Tryd.func28, Tryd.ntmps28
    go_wp2_with (go_at_call 43; refine (HI.out _).mono ?_; rintro e w' ⟨rfl, rfl⟩)
    go_ret3
    exact ⟨by rw [← HE.out]; rfl, 0, rfl⟩
set_option maxRecDepth 100000 in
set_option maxHeartbeats 2000000 in
theorem scut_c (s : ByteArray) (c : UInt8) (w : World) (hs : s.size ≤ 1000) : Calls Tryd.prog 16 #[.string s, .string ⟨#[c]⟩] w fun e w' => e = cutV c s.data.toList ∧ ∃ n, w' = w.drewN n := by
  have HI := Lib.hid (fun W => lcut_c s c W hs)
  unfold cutV at HI ⊢
  revert HI
  generalize decide (c ∈ s.data.toList) = fd
  intro HI
  go_enter Tryd.func16, Tryd.ntmps16
  go_wp2_with (go_at_call 28; refine (HI.out _).mono ?_; rintro e w' ⟨rfl, n, rfl⟩)
  go_ret3
  exact ⟨rfl, n, rfl⟩
theorem pre_c (s p : ByteArray) (w : World) : Calls Tryd.prog 15 #[.string s, .string p] w fun e w' => e = .returned (.tuple #[.string ⟨(Lib.trimPrefix s.data.toList p.data.toList).toArray⟩, .bool (Lib.hasPrefix s.data.toList p.data.toList)]) ∧ w' = w := Any.strings_CutPrefix Tryd.lays103 s p w
/-- the library's parts at one byte are the document's -/
theorem split_cutL (c : UInt8) : ∀ (k : Nat) (l : List UInt8), l.length ≤ k → Lib.splitK [c] 0 (Lib.count l [c]) l = Ch.cutL c l
  | 0, l, h => by
    have : l = [] := List.length_eq_zero_iff.1 (by omega)
    subst this
    rfl
  | k + 1, l, h => by
    by_cases hm : c ∈ l
    · obtain ⟨j, hj, hjl, hnm, hsp⟩ := Ch.idx_split l c ((Ch.idx_ge _ c).2 hm)
      have hcnt : Lib.count l [c] = Lib.count (l.drop (j + 1)) [c] + 1 := by
        rw [Lib.count_one, Lib.count_one]
        conv => lhs; rw [hsp]
        rw [List.count_append, List.count_cons_self, List.count_eq_zero_of_not_mem hnm]; omega
      rw [hcnt, Lib.splitK, Lib.index_one, hj, if_neg (by simp)]
      have ih := split_cutL c k (l.drop (j + 1)) (by rw [List.length_drop]; omega)
      have e2 : Ch.cutL c l = l.take j :: Ch.cutL c (l.drop (j + 1)) := by
        have := Ch.cutL_at c (l.take j) (l.drop (j + 1)) hnm
        rw [← hsp] at this; exact this
      rw [e2]
      simp only [Int.toNat_natCast, Nat.add_zero, List.length_singleton]
      rw [ih]
    · rw [Lib.count_one, List.count_eq_zero_of_not_mem hm, Lib.splitK, Ch.cutL_none c l hm]
def strsC (ps : List (List UInt8)) : Array Value := (ps.map (fun p => Value.string (mkS p))).toArray
theorem split_cells (c : UInt8) (s : ByteArray) : ((Lib.splitB ⟨#[c]⟩ 0 (Lib.countB s ⟨#[c]⟩) s).map Value.string).toArray = strsC (Ch.cutL c s.data.toList) := by
  have h := Lib.splitB_data ⟨#[c]⟩ 0 (Lib.countB s ⟨#[c]⟩) s
  have e := split_cutL c s.data.toList.length s.data.toList (Nat.le_refl _)
  have h2 : (Lib.splitB ⟨#[c]⟩ 0 (Lib.countB s ⟨#[c]⟩) s).map (·.data.toList) = Ch.cutL c s.data.toList := h.trans e
  unfold strsC
  rw [← h2, List.map_map]
  congr 1
theorem info9' : (Tryd.prog.info? 9).map (fun i => (i.zero, i.size, i.bytes)) = some (some (.string ByteArray.empty), 1, 16) := by kernel_rfl
set_option maxRecDepth 100000 in
set_option maxHeartbeats 2000000 in
theorem split_c (s : ByteArray) (c : UInt8) (w : World) (hs : s.size ≤ 1000) :
    Calls Tryd.prog 21 #[.string s, .string ⟨#[c]⟩] w fun e w' => e = .returned (.slice (some ⟨w.heap.size, 0, none⟩) (Ch.cutL c s.data.toList).length (Ch.cutL c s.data.toList).length) ∧ w' = w.alloc (.cells (strsC (Ch.cutL c s.data.toList)) 9) := by
  have h1 : 1 ≤ (ByteArray.mk #[c]).size := Nat.le_refl 1
  have hle := Lib.countB_le ⟨#[c]⟩ h1 s.size s (Nat.le_refl _)
  have hlen := Lib.splitB_all ⟨#[c]⟩ h1 0 _ s rfl
  have g := Any.strings_genSplit_core (P := Tryd.prog) (ρ := Tryd.lays146_ren) { Tryd.lays146 with } info9' s ⟨#[c]⟩ 0 (-1) (Lib.countB s ⟨#[c]⟩ + 1) w (by omega) h1 (Nat.zero_le _)
    (fun x d hx => by
      have := Any.strings_Index_one (P := Tryd.prog) (ρ := Tryd.lays146_ren) { Tryd.lays146 with } x c (w.alloc (.cells d (Tryd.lays146_ren.t 9)))
      rw [← Lib.index_one] at this; exact this)
    (by
      have := Any.strings_Count_one (P := Tryd.prog) (ρ := Tryd.lays146_ren) { Tryd.lays146 with } s c w
      unfold Lib.countByte at this
      rw [← Lib.count_one] at this
      exact this) (by decide) (by decide) (by rw [if_pos (by decide)]; omega)
  rw [Nat.add_sub_cancel, hlen] at g
  have e2 : Lib.cellsOf (Lib.splitB ⟨#[c]⟩ 0 (Lib.countB s ⟨#[c]⟩) s) (Lib.countB s ⟨#[c]⟩ + 1) = ((Lib.splitB ⟨#[c]⟩ 0 (Lib.countB s ⟨#[c]⟩) s).map Value.string).toArray := by rw [← hlen]; exact Lib.cellsOf_full _
  rw [e2, split_cells] at g
  have e3 : Lib.countB s ⟨#[c]⟩ + 1 = (Ch.cutL c s.data.toList).length := by
    have h4 := congrArg Array.size (split_cells c s)
    unfold strsC at h4
    simp only [List.size_toArray, List.length_map] at h4
    rw [← h4, hlen]
  rw [e3] at g
  have G := Lib.hid g
  clear g hle hlen e2 e3
  go_enter Tryd.func21, Tryd.ntmps21
  go_wp2_with (go_at_call 34; refine G.out.mono ?_; rintro e w' ⟨rfl, hw⟩; rw [hw])
  go_ret
  exact ⟨rfl, rfl⟩
def inB (c : Int) : Bool := letB c || digB c || decide (c = 95)
set_option maxRecDepth 100000 in
set_option maxHeartbeats 2000000 in
theorem in_c (c : Int) (w : World) : Calls Tryd.prog 38 #[.int .u8 c] w fun e w' => e = .returned (.bool (inB c)) ∧ w = w' := by
  have HL := Lib.hid (fun W => let_c c W)
  have HD := Lib.hid (fun W => dig_c c W)
  cases hl : letB c with
  | true =>
    have e : inB c = true := by unfold inB; rw [hl]; rfl
    rw [e]; rw [hl] at HL
    clear e hl
    go_enter Tryd.func38, Tryd.ntmps38
    go_wp2_with (go_at_call 48; refine (HL.out _).mono ?_; rintro e w' ⟨rfl, hw⟩; rw [← hw]; clear hw)
    go_ret
    exact ⟨rfl, rfl⟩
  | false =>
    rw [hl] at HL
    cases hd : digB c with
    | true =>
      have e : inB c = true := by unfold inB; rw [hl, hd]; rfl
      rw [e]; rw [hd] at HD
      clear e hl hd
      go_enter Tryd.func38, Tryd.ntmps38
      go_wp2_with (first
        | (go_at_call 48; refine (HL.out _).mono ?_; rintro e w' ⟨rfl, hw⟩; rw [← hw]; clear hw)
        | (go_at_call 36; refine (HD.out _).mono ?_; rintro e w' ⟨rfl, hw⟩; rw [← hw]; clear hw))
      go_ret
      exact ⟨rfl, rfl⟩
    | false =>
      have e : inB c = decide (c = 95) := by unfold inB; rw [hl, hd]; rfl
      rw [e]; rw [hd] at HD
      clear e hl hd
      go_enter Tryd.func38, Tryd.ntmps38
      go_wp2_with (first
        | (go_at_call 48; refine (HL.out _).mono ?_; rintro e w' ⟨rfl, hw⟩; rw [← hw]; clear hw)
        | (go_at_call 36; refine (HD.out _).mono ?_; rintro e w' ⟨rfl, hw⟩; rw [← hw]; clear hw))
      go_ret
      exact ⟨Ch.ret_bool (by first | rfl | simp), rfl⟩
def inBL (l : List UInt8) : Bool := l.all (fun b => inB (b.toNat : Int))
theorem ev_in : ∀ W : World, (binOp .eql 60 (.func (.func 38) #[] #[]) .nilFunc).run Tryd.prog W = .ok (.bool false) W := fun _ => by kernel_rfl
theorem all_no {s : ByteArray} {k : Nat} {p : UInt8 → Bool} (hk : k < s.size) (h : p s[k] = false) : s.data.toList.all p = false := by
  rw [List.all_eq_false]
  exact ⟨s[k], by rw [← gdat s k hk]; exact List.getElem_mem _, by simp [h]⟩
set_option maxRecDepth 100000 in
set_option maxHeartbeats 2000000 in
theorem all_in (s : ByteArray) (w : World) (hs : s.size ≤ 1000) : Calls Tryd.prog 37 #[.string s, .func (.func 38) #[] #[]] w fun e w' => e = .returned (.bool (inBL s.data.toList)) ∧ w = w' := by
  have hsl := Lib.hid (Lib.size_eq s)
  have hev := ev_in
  go_enter Tryd.func37, Tryd.ntmps37
  go_wp2
  go_loop [10] (fun i => ∃ k : Nat, k ≤ s.size ∧ i = .int .i64 k ∧ inBL (s.data.toList.take k) = true) (fun i => s.size - (intOf i).toNat)
  case atStart => exact ⟨0, by omega, rfl, rfl⟩
  case round =>
    obtain ⟨k, hk, rfl, hal⟩ := hrel
    have HA := Lib.hid hal
    clear hal
    by_cases hlt : k < s.size
    · have h0 : 0 ≤ ((s[k].toNat : Nat) : Int) := by omega
      have h1 : ((s[k].toNat : Nat) : Int) ≤ 255 := by have := s[k].toNat_lt; omega
      cases hb : inB (s[k].toNat : Int) with
      | true =>
        have HB := Lib.hid hb
        go_wp2_with (go_at_call 38; refine (in_c _ _).mono ?_; rintro e w' ⟨rfl, rfl⟩)
        go_round
        case rel => exact ⟨k + 1, by omega, by go_num, by rw [take_snoc hlt]; have h := HA.out; unfold inBL at *; rw [List.all_append, h]; simp [HB.out]⟩
        case measure => simp [intOf]; omega
      | false =>
        have HB := Lib.hid hb
        go_wp2_with (go_at_call 38; refine (in_c _ _).mono ?_; rintro e w' ⟨rfl, rfl⟩)
        go_ret
        exact ⟨Ch.ret_bool (all_no (p := fun b => inB (b.toNat : Int)) hlt HB.out).symm, rfl⟩
    · go_wp2
      go_ret
      exact ⟨Ch.ret_bool (by have h := HA.out; rw [List.take_of_length_le (by rw [← hsl.out]; omega)] at h; rw [h]), rfl⟩
/-- may a label have this name? -/
def namB (l : List UInt8) : Bool := match l with | [] => false | c :: _ => !digB (c.toNat : Int) && inBL l
theorem emp {s : ByteArray} (h : ¬ 0 < s.size) : s = ⟨#[]⟩ := by
  obtain ⟨⟨l⟩⟩ := s
  have : l.length = 0 := by
    have h2 : ¬ 0 < l.length := h
    omega
  rw [List.eq_nil_of_length_eq_zero this]
theorem nam_ne {s : ByteArray} (h : 0 < s.size) : namB s.data.toList = (!digB (s[0].toNat : Int) && inBL s.data.toList) ∧ s.toList.isEmpty = false ∧ s.data.toList.isEmpty = false := by
  obtain ⟨⟨l⟩⟩ := s
  cases l with
  | nil => exact absurd h (Nat.lt_irrefl 0)
  | cons c r => exact ⟨rfl, by rw [Lib.toList_data]; rfl, rfl⟩
set_option maxRecDepth 100000 in
set_option maxHeartbeats 2000000 in
theorem Name_c (s : ByteArray) (w : World) (hs : s.size ≤ 1000) : Calls Tryd.prog 24 #[.string s] w fun e w' => e = .returned (.bool (namB s.data.toList)) ∧ w = w' := by
  by_cases h0 : 0 < s.size
  · obtain ⟨hn, he, _⟩ := nam_ne h0
    rw [hn]
    clear hn
    have HA := Lib.hid (fun W => all_in s W hs)
    have hz1 : (0 : Int) < (s.size : Int) := by omega
    generalize inBL s.data.toList = b at HA ⊢
    cases hd : digB (s[0].toNat : Int) with
    | true =>
      have HD := Lib.hid (fun W => dig_c (s[0].toNat : Int) W)
      rw [hd] at HD
      clear hd
      show Calls _ _ _ _ fun e w' => e = .returned (.bool false) ∧ _
      go_enter Tryd.func24, Tryd.ntmps24
      go_wp2_with (go_at_call 36; refine (HD.out _).mono ?_; rintro e w' ⟨rfl, hw⟩; rw [← hw]; clear hw)
      go_ret
      exact ⟨rfl, rfl⟩
    | false =>
      have HD := Lib.hid (fun W => dig_c (s[0].toNat : Int) W)
      rw [hd] at HD
      clear hd
      show Calls _ _ _ _ fun e w' => e = .returned (.bool b) ∧ _
      go_enter Tryd.func24, Tryd.ntmps24
      go_wp2_with (first
        | (go_at_call 36; refine (HD.out _).mono ?_; rintro e w' ⟨rfl, hw⟩; rw [← hw]; clear hw)
        | (go_at_call 37; refine (HA.out _).mono ?_; rintro e w' ⟨rfl, hw⟩; rw [← hw]; clear hw))
      go_ret
      exact ⟨rfl, rfl⟩
  · obtain rfl := emp h0
    show Calls _ _ _ _ fun e w' => e = .returned (.bool false) ∧ _
    clear h0 hs
    go_enter Tryd.func24, Tryd.ntmps24
    go_wp2
    go_ret
    exact ⟨rfl, rfl⟩
def okA (i : Nat) (c : Int) : Bool := letB c || decide (c = 95) || (decide (i ≠ 0) && digB c)
theorem nam_iff (s : ByteArray) : namB s.data.toList = true ↔ 0 < s.size ∧ ∀ i (h : i < s.size), okA i (s[i].toNat : Int) = true := by
  constructor
  · intro h
    by_cases h0 : 0 < s.size
    · refine ⟨h0, fun i hi => ?_⟩
      rw [(nam_ne h0).1] at h
      simp only [Bool.and_eq_true, Bool.not_eq_true'] at h
      have h2 : inB (s[i].toNat : Int) = true := by
        have := h.2
        unfold inBL at this
        rw [List.all_eq_true] at this
        exact this s[i] (by rw [← gdat s i hi]; exact List.getElem_mem _)
      unfold inB at h2
      unfold okA
      by_cases hi0 : i = 0
      · subst hi0
        rw [h.1] at h2 ⊢
        simpa using h2
      · cases hl : letB (s[i].toNat : Int) <;> cases hd : digB (s[i].toNat : Int) <;> simp_all
    · rw [emp h0] at h; cases h
  · rintro ⟨h0, h⟩
    rw [(nam_ne h0).1]
    have h1 := h 0 h0
    have hd : digB (s[0].toNat : Int) = false := by
      unfold okA at h1
      simp only [ne_eq, not_true_eq_false, decide_false, Bool.false_and, Bool.or_false] at h1
      unfold digB
      rw [decide_eq_false_iff_not]
      intro hh
      unfold letB at h1
      rw [Bool.or_eq_true, decide_eq_true_eq, decide_eq_true_eq] at h1
      omega
    rw [hd]
    simp only [Bool.not_false, Bool.true_and]
    unfold inBL
    rw [List.all_eq_true]
    intro c hc
    obtain ⟨i, hi, rfl⟩ := List.mem_iff_getElem.1 hc
    have hi' : i < s.size := by rw [Lib.size_eq]; exact hi
    have h2 := h i hi'
    rw [gdat s i hi']
    unfold okA at h2
    unfold inB
    cases hl : letB (s[i].toNat : Int) <;> cases hdd : digB (s[i].toNat : Int) <;> simp_all
set_option maxRecDepth 100000 in
set_option maxHeartbeats 4000000 in
theorem NameR_c (s : ByteArray) (w : World) (hs : s.size ≤ 9223372036854775807) : Calls Tryd.prog 25 #[.string s] w fun e w' => e = .returned (.bool (namB s.data.toList)) ∧ w = w' := by
  have HI := Lib.hid (nam_iff s)
  generalize namB s.data.toList = nb at HI ⊢
  go_enter Tryd.func25, Tryd.ntmps25
  go_wp2
  go_loop [3] (fun i => ∃ k : Nat, k ≤ s.size ∧ i = .int .i64 k ∧ Hid (∀ i (h : i < s.size), i < k → okA i (s[i].toNat : Int) = true)) (fun i => s.size - (intOf i).toNat)
  case atStart => exact ⟨0, by omega, rfl, Lib.hid (fun i _ h => absurd h (Nat.not_lt_zero _))⟩
  case round =>
    obtain ⟨k, hk, rfl, HA⟩ := hrel
    by_cases hlt : k < s.size
    · have h0 : 0 ≤ ((s[k].toNat : Nat) : Int) := by omega
      have h1 : ((s[k].toNat : Nat) : Int) ≤ 255 := by have := s[k].toNat_lt; omega
      have hk0 : (0 : Int) ≤ (k : Int) := by omega
      have HL := Lib.hid (fun W => let_r (s[k].toNat : Int) W h0 h1)
      have HD := Lib.hid (fun W => dig_r (s[k].toNat : Int) W h0 h1)
      have HS : Hid (okA k (s[k].toNat : Int) = true → ∀ i (h : i < s.size), i < k + 1 → okA i (s[i].toNat : Int) = true) := fun hh i hi hlt2 => by
        rcases Nat.lt_succ_iff_lt_or_eq.1 hlt2 with g | g
        · exact HA.out i hi g
        · subst g; exact hh
      have HF : Hid (okA k (s[k].toNat : Int) = false → nb = false) := fun hh => by
        cases hn : nb with
        | false => rfl
        | true => rw [(HI.out.1 hn).2 k hlt] at hh; cases hh
      unfold okA at HS HF
      revert HL HD HS HF h0 h1
      generalize hc : s[k] = ch
      intro h0 h1 HL HD HS HF
      cases hl : letB (ch.toNat : Int) with
      | true =>
        rw [hl] at HL HS
        have HS2 := Lib.hid (HS.out (by simp))
        clear hl HS HF HD
        go_wp2_with (go_at_call 39; refine (HL.out _).mono ?_; rintro e w' ⟨rfl, hw⟩; rw [← hw]; clear hw)
        go_round
        case rel => exact ⟨k + 1, by omega, by go_num, HS2⟩
        case measure => simp [intOf]; omega
      | false =>
        rw [hl] at HL HS HF
        by_cases h95 : (ch.toNat : Int) = 95
        · have HS2 := Lib.hid (HS.out (by simp [h95]))
          have hq : (((ch.toNat : Nat) : Int) == 95) = true := by rw [h95]; rfl
          have hq2 : (((ch.toNat : Nat) : Int) != 95) = false := by rw [h95]; rfl
          clear hl HS HF HD h95
          go_wp2_with (go_at_call 39; refine (HL.out _).mono ?_; rintro e w' ⟨rfl, hw⟩; rw [← hw]; clear hw)
          go_round
          case rel => exact ⟨k + 1, by omega, by go_num, HS2⟩
          case measure => simp [intOf]; omega
        · have hq : (((ch.toNat : Nat) : Int) == 95) = false := beq_eq_false_iff_ne.2 h95
          have hq2 : (((ch.toNat : Nat) : Int) != 95) = true := by rw [bne, hq]; rfl
          by_cases hz : k = 0
          · have HF2 := Lib.hid (HF.out (by simp [h95, hz]))
            have hz' : (k : Int) = 0 := by omega
            have hz2 : ((k : Int) == 0) = true := by simp [hz]
            clear hz'
            clear hl HS HF HD h95 hz
            go_wp2_with (go_at_call 39; refine (HL.out _).mono ?_; rintro e w' ⟨rfl, hw⟩; rw [← hw]; clear hw)
            go_ret
            exact ⟨Ch.ret_bool HF2.out.symm, rfl⟩
          · have hz' : ¬ (k : Int) = 0 := by omega
            have hz2 : ((k : Int) == 0) = false := beq_eq_false_iff_ne.2 hz'
            cases hd : digB (ch.toNat : Int) with
            | true =>
              rw [hd] at HD HS
              have HS2 := Lib.hid (HS.out (by simp [hz]))
              clear hl hd HS HF h95 hz
              go_wp2_with (first
                | (go_at_call 39; refine (HL.out _).mono ?_; rintro e w' ⟨rfl, hw⟩; rw [← hw]; clear hw)
                | (go_at_call 40; refine (HD.out _).mono ?_; rintro e w' ⟨rfl, hw⟩; rw [← hw]; clear hw))
              go_round
              case rel => exact ⟨k + 1, by omega, by go_num, HS2⟩
              case measure => simp [intOf]; omega
            | false =>
              rw [hd] at HD HF
              have HF2 := Lib.hid (HF.out (by simp [h95]))
              clear hl hd HS HF h95 hz
              go_wp2_with (first
                | (go_at_call 39; refine (HL.out _).mono ?_; rintro e w' ⟨rfl, hw⟩; rw [← hw]; clear hw)
                | (go_at_call 40; refine (HD.out _).mono ?_; rintro e w' ⟨rfl, hw⟩; rw [← hw]; clear hw))
              go_ret
              exact ⟨Ch.ret_bool HF2.out.symm, rfl⟩
    · by_cases hz : 0 < s.size
      · have HT : Hid (nb = true) := HI.out.2 ⟨hz, fun i h => HA.out i h (by omega)⟩
        have he := (nam_ne hz).2.1
        go_wp2
        go_ret
        exact ⟨Ch.ret_bool (by first | (rw [HT.out]; done) | (rw [HT.out]; simp)), rfl⟩
      · have hs0 : s = ⟨#[]⟩ := emp hz
        have HT : Hid (nb = false) := by
          show _ = _
          cases hn : nb with
          | false => rfl
          | true => exact absurd (HI.out.1 hn).1 hz
        have he : s.toList.isEmpty = true := by rw [hs0, Lib.toList_data]; rfl
        clear hs0
        go_wp2
        go_ret
        exact ⟨Ch.ret_bool (by first | (rw [HT.out]; done) | (rw [HT.out]; simp)), rfl⟩
theorem ret_str {a b : ByteArray} (h : a = b) : Ending.returned (.string a) = .returned (.string b) := by rw [h]
def shortL (l : List UInt8) : List UInt8 := l.take 80
theorem short_sz (a : ByteArray) : (mkS (shortL a.data.toList)).size ≤ 80 := by rw [size_mkS]; unfold shortL; rw [List.length_take]; omega
theorem short_c (s : ByteArray) (w : World) (hs : s.size ≤ maxLen) : Calls Tryd.prog 5 #[.string s] w fun e w' => e = .returned (.string (mkS (shortL s.data.toList))) ∧ w = w' := by
  unfold maxLen at hs
  by_cases h : 80 < s.size
  · have h' : (80 : Int) < (s.size : Int) := by omega
    go_enter Tryd.func5, Tryd.ntmps5
    go_wp2
    go_ret
    exact ⟨ret_str (mkS_of (by rw [Lib.extract_data]; simp [shortL])), rfl⟩
  · have h' : (s.size : Int) ≤ 80 := by omega
    have H := Lib.hid h
    go_enter Tryd.func5, Tryd.ntmps5
    go_wp2
    go_ret
    exact ⟨ret_str (mkS_of (by have := H.out; rw [Lib.size_eq] at this; unfold shortL; rw [List.take_of_length_le (by omega)])), rfl⟩
end Go.Proofs.YtbafjilhopgjmaaDoor.Pg

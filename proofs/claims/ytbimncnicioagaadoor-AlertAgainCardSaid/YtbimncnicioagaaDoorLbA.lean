/- Names of labels and their values: contracts of package label's inName, Name, isValue, of its first closure, of IndexFunc and ContainsFunc at it; names and values of at most a thousand bytes, where the tables lie as the program's text lays them. -/
import Derived.Test.YtbimncnicioagaaDoorJtQuoR
import Derived.Test.YtbimncnicioagaaDoorChXa
namespace Go.Proofs.YtbimncnicioagaaDoor.Lb
open Go.RowKit Ch Jt
set_option linter.unusedSimpArgs false
set_option linter.unusedVariables false

abbrev FB := ByteArray × ByteArray
/-- the tables that are read, where the program's text lays them -/
def Ev (w : World) : Prop := Ut.Tabs w ∧ Nu.Tabs w
theorem Ev.go {w w' : World} (h : Ev w) (hb : Below w.heap.size w w') : Ev w' := ⟨h.1.go hb, h.2.go hb⟩
theorem Ev.big {w : World} (h : Ev w) : 6 ≤ w.heap.size := Nat.le_trans (by decide) h.2.three
theorem Ev.alloc {w : World} (h : Ev w) (o : Obj) : Ev (w.alloc o) := h.go ((Below.refl _ _).alloc (Nat.le_refl _) o)
def inB (c : Int) : Bool := letB c || digB c || decide (c = 95)
set_option maxRecDepth 100000 in
set_option maxHeartbeats 2000000 in
theorem in_c (c : Int) (w : World) : Calls Tryd.prog 45 #[.int .u8 c] w fun e w' => e = .returned (.bool (inB c)) ∧ w = w' := by
  have HL := Lib.hid (fun W => let_c c W)
  have HD := Lib.hid (fun W => dig_c c W)
  cases hl : letB c with
  | true =>
    have e : inB c = true := by unfold inB; rw [hl]; rfl
    rw [e]; rw [hl] at HL
    clear e hl
    go_enter Tryd.func45, Tryd.ntmps45
    go_wp2_with (go_at_call 54; refine (HL.out _).mono ?_; rintro e w' ⟨rfl, hw⟩; rw [← hw]; clear hw)
    go_ret
    exact ⟨rfl, rfl⟩
  | false =>
    rw [hl] at HL
    cases hd : digB c with
    | true =>
      have e : inB c = true := by unfold inB; rw [hl, hd]; rfl
      rw [e]; rw [hd] at HD
      clear e hl hd
      go_enter Tryd.func45, Tryd.ntmps45
      go_wp2_with (first
        | (go_at_call 54; refine (HL.out _).mono ?_; rintro e w' ⟨rfl, hw⟩; rw [← hw]; clear hw)
        | (go_at_call 43; refine (HD.out _).mono ?_; rintro e w' ⟨rfl, hw⟩; rw [← hw]; clear hw))
      go_ret
      exact ⟨rfl, rfl⟩
    | false =>
      have e : inB c = decide (c = 95) := by unfold inB; rw [hl, hd]; rfl
      rw [e]; rw [hd] at HD
      clear e hl hd
      go_enter Tryd.func45, Tryd.ntmps45
      go_wp2_with (first
        | (go_at_call 54; refine (HL.out _).mono ?_; rintro e w' ⟨rfl, hw⟩; rw [← hw]; clear hw)
        | (go_at_call 43; refine (HD.out _).mono ?_; rintro e w' ⟨rfl, hw⟩; rw [← hw]; clear hw))
      go_ret
      exact ⟨Ch.ret_bool (by first | rfl | simp), rfl⟩
def inBL (l : List UInt8) : Bool := l.all (fun b => inB (b.toNat : Int))
theorem ev_in : ∀ W : World, (binOp .eql 79 (.func (.func 45) #[] #[]) .nilFunc).run Tryd.prog W = .ok (.bool false) W := fun _ => by kernel_rfl
theorem all_no {s : ByteArray} {k : Nat} {p : UInt8 → Bool} (hk : k < s.size) (h : p s[k] = false) : s.data.toList.all p = false := by
  rw [List.all_eq_false]
  exact ⟨s[k], by rw [← gdat s k hk]; exact List.getElem_mem _, by simp [h]⟩
set_option maxRecDepth 100000 in
set_option maxHeartbeats 2000000 in
theorem all_in (s : ByteArray) (w : World) (hs : s.size ≤ 1000) : Calls Tryd.prog 44 #[.string s, .func (.func 45) #[] #[]] w fun e w' => e = .returned (.bool (inBL s.data.toList)) ∧ w = w' := by
  have hsl := Lib.hid (Lib.size_eq s)
  have hev := ev_in
  go_enter Tryd.func44, Tryd.ntmps44
  go_wp2
  go_loop [10] (fun i => ∃ k : Nat, k ≤ s.size ∧ i = .int .i64 k ∧ inBL (s.data.toList.take k) = true) (fun i => s.size - (intOf i).toNat)
  case atStart => exact ⟨0, by omega, rfl, rfl⟩
  case round =>
    obtain ⟨k, hk, rfl, hal⟩ := hrel
    have HA := Lib.hid hal
    clear hal
    by_cases hlt : k < s.size
    · have h0 : 0 ≤ ((s[k].toNat : Nat) : Int) := by omega
      have h1 : ((s[k].toNat : Nat) : Int) ≤ 255 := by have := s[k].toNat_lt; omega
      cases hb : inB (s[k].toNat : Int) with
      | true =>
        have HB := Lib.hid hb
        go_wp2_with (go_at_call 45; refine (in_c _ _).mono ?_; rintro e w' ⟨rfl, rfl⟩)
        go_round
        case rel => exact ⟨k + 1, by omega, by go_num, by rw [take_snoc hlt]; have h := HA.out; unfold inBL at *; rw [List.all_append, h]; simp [HB.out]⟩
        case measure => simp [intOf]; omega
      | false =>
        have HB := Lib.hid hb
        go_wp2_with (go_at_call 45; refine (in_c _ _).mono ?_; rintro e w' ⟨rfl, rfl⟩)
        go_ret
        exact ⟨Ch.ret_bool (all_no (p := fun b => inB (b.toNat : Int)) hlt HB.out).symm, rfl⟩
    · go_wp2
      go_ret
      exact ⟨Ch.ret_bool (by have h := HA.out; rw [List.take_of_length_le (by rw [← hsl.out]; omega)] at h; rw [h]), rfl⟩
/-- may a label have this name? -/
def namB (l : List UInt8) : Bool := match l with | [] => false | c :: _ => !digB (c.toNat : Int) && inBL l
def valB (l : List UInt8) : Bool := !l.isEmpty && vldB l
theorem emp {s : ByteArray} (h : ¬ 0 < s.size) : s = ⟨#[]⟩ := by
  obtain ⟨⟨l⟩⟩ := s
  have : l.length = 0 := by
    have h2 : ¬ 0 < l.length := h
    omega
  rw [List.eq_nil_of_length_eq_zero this]
theorem nam_ne {s : ByteArray} (h : 0 < s.size) : namB s.data.toList = (!digB (s[0].toNat : Int) && inBL s.data.toList) ∧ s.toList.isEmpty = false ∧ s.data.toList.isEmpty = false := by
  obtain ⟨⟨l⟩⟩ := s
  cases l with
  | nil => exact absurd h (Nat.lt_irrefl 0)
  | cons c r => exact ⟨rfl, by rw [Lib.toList_data]; rfl, rfl⟩
set_option maxRecDepth 100000 in
set_option maxHeartbeats 2000000 in
theorem Name_c (s : ByteArray) (w : World) (hs : s.size ≤ 1000) : Calls Tryd.prog 31 #[.string s] w fun e w' => e = .returned (.bool (namB s.data.toList)) ∧ w = w' := by
  by_cases h0 : 0 < s.size
  · obtain ⟨hn, he, _⟩ := nam_ne h0
    rw [hn]
    clear hn
    have HA := Lib.hid (fun W => all_in s W hs)
    have hz1 : (0 : Int) < (s.size : Int) := by omega
    generalize inBL s.data.toList = b at HA ⊢
    cases hd : digB (s[0].toNat : Int) with
    | true =>
      have HD := Lib.hid (fun W => dig_c (s[0].toNat : Int) W)
      rw [hd] at HD
      clear hd
      show Calls _ _ _ _ fun e w' => e = .returned (.bool false) ∧ _
      go_enter Tryd.func31, Tryd.ntmps31
      go_wp2_with (go_at_call 43; refine (HD.out _).mono ?_; rintro e w' ⟨rfl, hw⟩; rw [← hw]; clear hw)
      go_ret
      exact ⟨rfl, rfl⟩
    | false =>
      have HD := Lib.hid (fun W => dig_c (s[0].toNat : Int) W)
      rw [hd] at HD
      clear hd
      show Calls _ _ _ _ fun e w' => e = .returned (.bool b) ∧ _
      go_enter Tryd.func31, Tryd.ntmps31
      go_wp2_with (first
        | (go_at_call 43; refine (HD.out _).mono ?_; rintro e w' ⟨rfl, hw⟩; rw [← hw]; clear hw)
        | (go_at_call 44; refine (HA.out _).mono ?_; rintro e w' ⟨rfl, hw⟩; rw [← hw]; clear hw))
      go_ret
      exact ⟨rfl, rfl⟩
  · obtain rfl := emp h0
    show Calls _ _ _ _ fun e w' => e = .returned (.bool false) ∧ _
    clear h0 hs
    go_enter Tryd.func31, Tryd.ntmps31
    go_wp2
    go_ret
    exact ⟨rfl, rfl⟩
set_option maxRecDepth 100000 in
set_option maxHeartbeats 2000000 in
theorem isVal_c (s : ByteArray) (w : World) (hE : Ev w) (hs : s.size ≤ 1000) : Calls Tryd.prog 32 #[.string s] w fun e w' => e = .returned (.bool (valB s.data.toList)) ∧ Below w.heap.size w w' := by
  by_cases h0 : 0 < s.size
  · obtain ⟨_, he, hn⟩ := nam_ne h0
    have e : valB s.data.toList = vldB s.data.toList := by unfold valB; rw [hn]; rfl
    rw [e]
    have HA := Lib.hid (valid_c s w hE.1 hs)
    clear e hn hE
    generalize vldB s.data.toList = b at HA ⊢
    go_enter Tryd.func32, Tryd.ntmps32
    go_wp2_with (go_at_call 46; refine HA.out.mono ?_; rintro e w' ⟨rfl, hb⟩; have HB := Lib.hid hb; clear hb)
    go_ret
    exact ⟨rfl, HB.out⟩
  · obtain rfl := emp h0
    show Calls _ _ _ _ fun e w' => e = .returned (.bool false) ∧ _
    clear h0 hs hE
    go_enter Tryd.func32, Tryd.ntmps32
    go_wp2
    go_ret
    exact ⟨rfl, Below.refl _ _⟩
/-- a pair that may not be -/
def badB (f : FB) : Bool := !namB f.1.data.toList || !valB f.2.data.toList
def smallF (f : FB) : Prop := f.1.size ≤ 1000 ∧ f.2.size ≤ 1000
theorem cell2 {w : World} {g : Nat} {a b : Value} {T : TypeId} (h : w.heap[g]? = some (.cells #[a, b] T (0, 0))) : w.cell? ⟨g, 0, none⟩ = some a ∧ w.cell? ⟨g, 1, none⟩ = some b := ⟨cell_of_row _ _ 0 _ _ _ h, cell_of_row _ _ 1 _ _ _ h⟩
set_option maxRecDepth 100000 in
set_option maxHeartbeats 2000000 in
theorem clo_c (f : FB) (w : World) (hE : Ev w) (h : smallF f) : Calls Tryd.prog 30 #[.agg #[.string f.1, .string f.2]] w fun e w' => e = .returned (.bool (badB f)) ∧ Below w.heap.size w w' := by
  obtain ⟨x, y⟩ := f
  have HN := Lib.hid (fun W => Name_c x W h.1)
  have hba := (Below.refl w.heap.size w).alloc (Nat.le_refl _) (.cells #[.string x, .string y] 58)
  have HV := Lib.hid (isVal_c y _ (hE.go hba) h.2)
  have HBA := Lib.hid hba
  clear hba hE h
  unfold badB
  simp only
  cases hn : namB x.data.toList with
  | false =>
    rw [hn] at HN
    clear hn
    show Calls _ _ _ _ fun e w' => e = .returned (.bool true) ∧ _
    go_enter Tryd.func30, Tryd.ntmps30
    go_wp2_with (go_at_call 31; refine (HN.out _).mono ?_; rintro e w' ⟨rfl, hw⟩; rw [← hw]; clear hw)
    go_ret
    exact ⟨rfl, HBA.out⟩
  | true =>
    rw [hn] at HN
    clear hn
    generalize valB y.data.toList = b at HV ⊢
    show Calls _ _ _ _ fun e w' => e = .returned (.bool !b) ∧ _
    go_enter Tryd.func30, Tryd.ntmps30
    go_wp2_with (first
      | (go_at_call 31; refine (HN.out _).mono ?_; rintro e w' ⟨rfl, hw⟩; rw [← hw]; clear hw)
      | (go_at_call 32; refine HV.out.mono ?_; rintro e w2 ⟨rfl, hb2⟩; have HB2 : Hid (Below w.heap.size w w2) := HBA.out.trans (hb2.mono HBA.out.size); clear hb2))
    go_ret
    exact ⟨rfl, HB2.out⟩
/-- a slice of pairs that can be read -/
def RdF (v : Value) (fs : List FB) (w : World) : Prop := ∃ ao cap, v = .slice ao fs.length cap ∧ (0 < fs.length → ∃ g off, ao = some ⟨g, off, none⟩ ∧ g < w.heap.size ∧ ∀ i (hi : i < fs.length), w.cell? ⟨g, off + i * 2, none⟩ = some (.string fs[i].1) ∧ w.cell? ⟨g, off + i * 2 + 1, none⟩ = some (.string fs[i].2))
theorem RdF.go {v : Value} {fs : List FB} {w W : World} (h : RdF v fs w) (hb : Below w.heap.size w W) : RdF v fs W := by
  obtain ⟨ao, cap, rfl, h⟩ := h
  refine ⟨ao, cap, rfl, fun h0 => ?_⟩
  obtain ⟨g, off, rfl, hg, hc⟩ := h h0
  exact ⟨g, off, rfl, Nat.lt_of_lt_of_le hg hb.size, fun i hi => ⟨(hb.cell (p := ⟨g, off + i * 2, none⟩) hg).trans (hc i hi).1, (hb.cell (p := ⟨g, off + i * 2 + 1, none⟩) hg).trans (hc i hi).2⟩⟩
theorem any_take {fs : List FB} {j : Nat} (hj : j < fs.length) (h : ∀ k (hk : k < fs.length), k < j → badB fs[k] = false) (hp : badB fs[j] = false) : ∀ k (hk : k < fs.length), k < j + 1 → badB fs[k] = false := fun k hk hlt => by
  rcases Nat.lt_succ_iff_lt_or_eq.1 hlt with g | g
  · exact h k hk g
  · subst g; exact hp
set_option maxRecDepth 100000 in
set_option maxHeartbeats 4000000 in
theorem idxf_c (v : Value) (fs : List FB) (w : World) (hE : Ev w) (hR : RdF v fs w) (hm : fs.length ≤ 1000000) (hs : ∀ f ∈ fs, smallF f) :
    Calls Tryd.prog 42 #[v, .func (.func 30) #[] #[]] w fun e w' => ∃ r : Int, e = .returned (.int .i64 r) ∧ decide (0 ≤ r) = fs.any badB ∧ Below w.heap.size w w' := by
  have HR := Lib.hid hR
  have HS := Lib.hid hs
  have HE := Lib.hid hE
  obtain ⟨ao, cap, rfl, hr⟩ := hR
  clear hr hs hE
  go_enter Tryd.func42, Tryd.ntmps42
  go_wp2
  go_loopw [8] (fun i wr => ∃ j : Nat, j ≤ fs.length ∧ i = .int .i64 j ∧ Hid (Below w.heap.size w wr) ∧ Hid (∀ k (hk : k < fs.length), k < j → badB fs[k] = false)) (fun i _ => fs.length - (intOf i).toNat)
  case atStart => exact ⟨0, by omega, rfl, Lib.hid (Below.refl _ _), Lib.hid (fun k hk h => absurd h (Nat.not_lt_zero _))⟩
  case round =>
    obtain ⟨j, hj, rfl, HB, HN⟩ := hrel
    have HRW := Lib.hid (HR.out.go HB.out)
    by_cases hlt : j < fs.length
    · obtain ⟨ao', cap', e, hc⟩ := HRW.out
      injection e with ea eb ec
      subst ea ec
      obtain ⟨g, off, rfl, hg, hat⟩ := hc (by omega)
      obtain ⟨k0, k1⟩ := hat j hlt
      have hj0 : (0 : Int) ≤ (j : Int) := by omega
      have hjl : (j : Int) < (fs.length : Int) := by omega
      have HC := Lib.hid (fun W h => clo_c fs[j] W h (HS.out _ (List.getElem_mem hlt)))
      have HEW := Lib.hid (HE.out.go HB.out)
      clear hat hc
      cases hp : badB fs[j] with
      | true =>
        rw [hp] at HC
        have HA : Hid (fs.any badB = true) := by show _ = _; rw [List.any_eq_true]; exact ⟨_, List.getElem_mem hlt, hp⟩
        clear hp
        revert k0 k1 HC
        generalize fs[j].1 = x
        generalize fs[j].2 = y
        intro k0 k1 HC
        go_wp2_with fail
        refine (HC.out _ HEW.out).mono ?_
        rintro e w2 ⟨rfl, hb2⟩
        have HB2 := Lib.hid (HB.out.trans (hb2.mono HB.out.size))
        clear hb2
        go_wp2
        go_ret
        exact ⟨_, rfl, by rw [HA.out]; exact decide_eq_true hj0, HB2.out⟩
      | false =>
        rw [hp] at HC
        have HN2 := Lib.hid (any_take hlt HN.out hp)
        clear hp HN
        revert k0 k1 HC
        generalize fs[j].1 = x
        generalize fs[j].2 = y
        intro k0 k1 HC
        go_wp2_with fail
        refine (HC.out _ HEW.out).mono ?_
        rintro e w2 ⟨rfl, hb2⟩
        have HB2 := Lib.hid (HB.out.trans (hb2.mono HB.out.size))
        clear hb2
        go_wp2
        go_roundw
        case rel => exact ⟨j + 1, by omega, by go_num, HB2, HN2⟩
        case measure => simp [intOf]; omega
    · have HA : Hid (fs.any badB = false) := by
        show _ = _
        rw [List.any_eq_false]
        intro f hf
        obtain ⟨k, hk, rfl⟩ := List.mem_iff_getElem.1 hf
        rw [HN.out k hk (by omega)]; simp
      go_wp2
      go_ret
      exact ⟨_, rfl, by rw [HA.out]; rfl, HB.out⟩
set_option maxRecDepth 100000 in
set_option maxHeartbeats 2000000 in
theorem hasf_c (v : Value) (fs : List FB) (w : World) (hE : Ev w) (hR : RdF v fs w) (hm : fs.length ≤ 1000000) (hs : ∀ f ∈ fs, smallF f) :
    Calls Tryd.prog 29 #[v, .func (.func 30) #[] #[]] w fun e w' => e = .returned (.bool (fs.any badB)) ∧ Below w.heap.size w w' := by
  have HI := Lib.hid (idxf_c v fs w hE hR hm hs)
  obtain ⟨ao, cap, rfl, _⟩ := hR
  clear hs hE
  generalize fs.any badB = q at HI ⊢
  go_enter Tryd.func29, Tryd.ntmps29
  go_wp2_with fail
  refine HI.out.mono ?_
  rintro e w1 ⟨r, rfl, hr, hb1⟩
  have HQ := Lib.hid hr
  have HB := Lib.hid hb1
  clear hr hb1
  go_wp2
  go_ret
  exact ⟨by rw [← HQ.out]; rfl, HB.out⟩
end Go.Proofs.YtbimncnicioagaaDoor.Lb

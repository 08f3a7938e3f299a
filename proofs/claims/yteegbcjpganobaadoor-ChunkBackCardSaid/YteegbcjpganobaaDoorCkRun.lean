/- The contract of package chunk's reader's run: for every text of at most a thousand bytes; where the library's variable MaxLen holds a number. -/
import Derived.Test.YteegbcjpganobaaDoorCkStepS
namespace Go.Proofs.YteegbcjpganobaaDoor.Hd
open Go.RowKit Ch
set_option linter.unusedSimpArgs false
set_option linter.unusedVariables false

/-- how the reader stands: its next step, its place, a size, how many fields, the body, a status -/
structure MS where
  kd : Nat
  k : Nat
  sz : Int
  n : Int
  bd : List UInt8
  st : Int
def stp (l : List UInt8) (a b c : Int) (x : MS) : MS := match x.kd with
  | 0 => match nxE l x.k a 400 with
    | .error e => { x with kd := 4, st := e }
    | .ok j => if (szL ((l.drop x.k).take j) (c - (x.bd.length : Int))).2 ≠ 0 then { x with kd := 4, k := x.k + (j + 2), st := (szL ((l.drop x.k).take j) (c - (x.bd.length : Int))).2 } else if (szL ((l.drop x.k).take j) (c - (x.bd.length : Int))).1 = 0 then { x with kd := 3, k := x.k + (j + 2) } else { x with kd := 1, k := x.k + (j + 2), sz := (szL ((l.drop x.k).take j) (c - (x.bd.length : Int))).1 }
  | 1 => if (l.length : Int) < (x.k : Int) + x.sz then { x with kd := 4, st := 1 } else { x with kd := 2, k := x.k + x.sz.toNat, bd := x.bd ++ (l.drop x.k).take x.sz.toNat }
  | 2 => if Lib.hasPrefix (l.drop x.k) [13, 10] then { x with kd := 0, k := x.k + 2 } else if Lib.hasPrefix [13, 10] (l.drop x.k) then { x with kd := 4, st := 1 } else { x with kd := 4, st := 400 }
  | 3 => match nxE l x.k a 431 with
    | .error e => { x with kd := 4, st := e }
    | .ok j => if j = 0 then { x with kd := 4, k := x.k + 2 } else if x.n = b then { x with kd := 4, k := x.k + (j + 2), st := 431 } else match ofL ((l.drop x.k).take j) with
      | none => { x with kd := 4, k := x.k + (j + 2), st := 400 }
      | some _ => { x with kd := 3, k := x.k + (j + 2), n := x.n + 1 }
  | _ => x
def mach (l : List UInt8) (a b c : Int) : Nat → MS → MS
  | 0, x => x
  | f + 1, x => if 4 ≤ x.kd then x else mach l a b c f (stp l a b c x)
def kF : Nat → Nat
  | 0 => 21
  | 1 => 29
  | 2 => 41
  | _ => 28
def kV (g : Nat) (d : Nat) : Value := if 4 ≤ d then .nilFunc else fnV (kF d) g
theorem kV_lt {g d : Nat} (h : d < 4) : kV g d = fnV (kF d) g := by unfold kV; rw [if_neg (by omega)]
theorem kV_ge {g d : Nat} (h : 4 ≤ d) : kV g d = .nilFunc := by unfold kV; rw [if_pos h]
structure Inv (x : MS) (N : Nat) : Prop where
  hk : x.k ≤ N
  hb : x.bd.length ≤ x.k
  h0 : 0 ≤ x.n
  h1 : x.n ≤ (x.k : Int)
  h2 : x.kd = 1 → 1 ≤ x.sz ∧ x.sz ≤ 2147483647
theorem sz_bd (l : List UInt8) (m : Int) : 0 ≤ (szL l m).1 ∧ (szL l m).1 ≤ 2147483647 ∧ ((szL l m).2 = 0 ∨ (szL l m).2 = 400 ∨ (szL l m).2 = 413) := by
  have := Nu.rdN_bd 16 2147483647 (.inr rfl) (by decide) (szD l)
  unfold szL
  split
  · exact ⟨by decide, by decide, by simp⟩
  · split
    · exact ⟨by decide, by decide, by simp⟩
    · exact ⟨this.1, this.2, by simp⟩
theorem stp_inv {l : List UInt8} {a b c : Int} {x : MS} (h : Inv x l.length) (hd : x.kd < 4) : Inv (stp l a b c x) l.length ∧ ((stp l a b c x).kd = 4 ∨ (stp l a b c x).kd < 4 ∧ x.k < (stp l a b c x).k) ∧ x.k ≤ (stp l a b c x).k := by
  obtain ⟨kd, k, sz, n, bd, st⟩ := x
  obtain ⟨hk, hb, h0, h1, h2⟩ := h
  simp only at hk hb h0 h1 h2 hd
  match kd, hd with
  | 0, _ =>
    unfold stp
    simp only
    cases hn : nxE l k a 400 with
    | error e => exact ⟨⟨hk, hb, h0, h1, fun e => by cases e⟩, .inl rfl, Nat.le_refl _⟩
    | ok j =>
      have hr := nx_room hk hn
      have hz := sz_bd ((l.drop k).take j) (c - (bd.length : Int))
      simp only
      split
      · exact ⟨⟨hr, by simp only; omega, h0, by simp only; omega, fun e => by cases e⟩, .inl rfl, by simp only; omega⟩
      · split
        · exact ⟨⟨hr, by simp only; omega, h0, by simp only; omega, fun e => by cases e⟩, .inr ⟨by simp only; omega, by simp only; omega⟩, by simp only; omega⟩
        · rename_i hz0
          exact ⟨⟨hr, by simp only; omega, h0, by simp only; omega, fun _ => ⟨by simp only; omega, by simp only; omega⟩⟩, .inr ⟨by simp only; omega, by simp only; omega⟩, by simp only; omega⟩
  | 1, _ =>
    have h2 := h2 rfl
    unfold stp
    simp only
    split
    · exact ⟨⟨hk, hb, h0, h1, fun e => by cases e⟩, .inl rfl, Nat.le_refl _⟩
    · refine ⟨⟨by simp only; omega, ?_, h0, by simp only; omega, fun e => by cases e⟩, .inr ⟨by simp only; omega, by simp only; omega⟩, by simp only; omega⟩
      simp only [List.length_append, List.length_take, List.length_drop]
      omega
  | 2, _ =>
    unfold stp
    simp only
    split
    · rename_i hp
      have : k + 2 ≤ l.length := by
        unfold Lib.hasPrefix at hp
        have h3 := (List.isPrefixOf_iff_prefix.1 hp).length_le
        rw [List.length_drop] at h3
        simp at h3
        omega
      exact ⟨⟨this, by simp only; omega, h0, by simp only; omega, fun e => by cases e⟩, .inr ⟨by simp only; omega, by simp only; omega⟩, by simp only; omega⟩
    · split
      · exact ⟨⟨hk, hb, h0, h1, fun e => by cases e⟩, .inl rfl, Nat.le_refl _⟩
      · exact ⟨⟨hk, hb, h0, h1, fun e => by cases e⟩, .inl rfl, Nat.le_refl _⟩
  | 3, _ =>
    unfold stp
    simp only
    cases hn : nxE l k a 431 with
    | error e => exact ⟨⟨hk, hb, h0, h1, fun e => by cases e⟩, .inl rfl, Nat.le_refl _⟩
    | ok j =>
      have hr := nx_room hk hn
      simp only
      split
      · exact ⟨⟨by simp only; omega, by simp only; omega, h0, by simp only; omega, fun e => by cases e⟩, .inl rfl, by simp only; omega⟩
      · split
        · exact ⟨⟨hr, by simp only; omega, h0, by simp only; omega, fun e => by cases e⟩, .inl rfl, by simp only; omega⟩
        · split
          · exact ⟨⟨hr, by simp only; omega, h0, by simp only; omega, fun e => by cases e⟩, .inl rfl, by simp only; omega⟩
          · exact ⟨⟨hr, by simp only; omega, by simp only; omega, by simp only; omega, fun e => by cases e⟩, .inr ⟨by simp only; omega, by simp only; omega⟩, by simp only; omega⟩
def StQ (g : Nat) (s : ByteArray) (a b c : Int) (y : MS) (w : World) (e : Ending) (w' : World) : Prop := e = .returned (kV g y.kd) ∧ St g s y.k a b c y.sz y.n y.bd y.st w' ∧ Below g w w'
theorem step_c (g : Nat) (s : ByteArray) (a b c : Int) (x : MS) (w : World) (h : St g s x.k a b c x.sz x.n x.bd x.st w) (hI : Inv x s.data.toList.length) (hd : x.kd < 4) (hM : Mx w) (hg : 3 < g) (hs : s.size ≤ 10000) (hc0 : 0 ≤ c) (hc1 : c ≤ 1048576) :
    Calls Tryd.prog (kF x.kd) #[.pointer (some ⟨g, 0, none⟩)] w (StQ g s a b c (stp s.data.toList a b c x) w) := by
  have hsl := Lib.size_eq s
  have hlt := h.lt
  obtain ⟨kd, k, sz, n, bd, st⟩ := x
  obtain ⟨hk, hb, h0, h1, h2⟩ := hI
  simp only at h hk hb h0 h1 h2 hd
  have hSt := h
  obtain ⟨p, v, b1, b2, b3, b4⟩ := h
  have cv : ∀ {e : Ending} {w' : World} {r : Value} {k' : Nat} {sz' n' st' : Int}, (e = .returned r ∧ CkB g s k' a b c sz' n' p v st' w' ∧ w.grownBy w' (some g)) → e = .returned r ∧ St g s k' a b c sz' n' bd st' w' ∧ Below g w w' := fun hh => ⟨hh.1, St.gb2 hh.2.1 b2 b3 b4 hh.2.2, gb_bel hh.2.2 (Nat.le_of_lt hlt)⟩
  have cw : ∀ {e : Ending} {w' : World} {r : Value} {k' : Nat} {sz' n' st' : Int}, (e = .returned r ∧ St g s k' a b c sz' n' bd st' w' ∧ w.grownBy w' (some g)) → e = .returned r ∧ St g s k' a b c sz' n' bd st' w' ∧ Below g w w' := fun hh => ⟨hh.1, hh.2.1, gb_bel hh.2.2 (Nat.le_of_lt hlt)⟩
  match kd, hd with
  | 0, _ =>
    have HLN := line_c g s k a b c sz n p v st 400 w b1 hM hg hs (by omega)
    unfold stp
    simp only
    cases hn : nxE s.data.toList k a 400 with
    | error e0 =>
      rw [hn] at HLN
      exact (sl_e g s k a b c sz n p v st e0 w b1 (Lib.hid HLN)).mono fun e w' hh => cv hh
    | ok j =>
      rw [hn] at HLN
      have hr := nx_room hk hn
      have hz := sz_bd ((s.data.toList.drop k).take j) (c - (bd.length : Int))
      have HSZ := fun W => Size_c (mkS ((s.data.toList.drop k).take j)) (c - (bd.length : Int)) W (by rw [size_mkS, List.length_take]; omega)
      rw [data_mkS] at HSZ
      simp only
      by_cases hx : (szL ((s.data.toList.drop k).take j) (c - (bd.length : Int))).2 ≠ 0
      · rw [if_pos hx]
        exact (sl_s g s k a b c sz n p v st (k + (j + 2)) _ bd _ _ w b1 (Lib.hid HLN) b2 b3 b4 (beq_eq_false_iff_ne.2 hx) (bne_iff_ne.2 hx) (Lib.hid HSZ) hc0 hc1 (by omega)).mono fun e w' hh => cw hh
      · rw [if_neg hx]
        have hx0 : (szL ((s.data.toList.drop k).take j) (c - (bd.length : Int))).2 = 0 := Classical.not_not.1 hx
        rw [hx0] at HSZ
        by_cases hy : (szL ((s.data.toList.drop k).take j) (c - (bd.length : Int))).1 = 0
        · rw [if_pos hy]
          rw [hy] at HSZ
          exact (sl_z g s k a b c sz n p v st (k + (j + 2)) _ bd 0 0 w b1 (Lib.hid HLN) b2 b3 b4 (Lib.hid HSZ) hc0 hc1 (by omega)).mono fun e w' hh => cw hh
        · rw [if_neg hy]
          exact (sl_o g s k a b c sz n p v st (k + (j + 2)) _ bd _ 0 w b1 (Lib.hid HLN) b2 b3 b4 (beq_eq_false_iff_ne.2 hy) (Lib.hid HSZ) hc0 hc1 (by omega)).mono fun e w' hh => cw hh
  | 1, _ =>
    have h2 := h2 rfl
    unfold stp
    simp only
    by_cases hm : (s.data.toList.length : Int) < (k : Int) + sz
    · rw [if_pos hm]
      exact (by_m g s k a b c sz n p v st w b1 (by omega) hs h2.1 h2.2 (by omega)).mono fun e w' hh => cv hh
    · rw [if_neg hm]
      obtain ⟨z, rfl⟩ : ∃ z : Nat, sz = (z : Int) := ⟨sz.toNat, by omega⟩
      rw [Int.toNat_natCast]
      exact by_o g s k z a b c n bd st w hSt (by omega) hs (by omega) (by omega)
  | 2, _ =>
    have hxd : (s.extract k s.size).data.toList = s.data.toList.drop k := by rw [extN, data_mkS]
    have HP := fun W => hasP_c (s.extract k s.size) ⟨#[13, 10]⟩ W
    have HP2 := fun W => hasP_c ⟨#[13, 10]⟩ (s.extract k s.size) W
    rw [hxd] at HP HP2
    unfold stp
    simp only
    cases e1 : Lib.hasPrefix (s.data.toList.drop k) [13, 10] with
    | true =>
      have HP' : ∀ W, Calls Tryd.prog 58 #[.string (s.extract k s.size), .string ⟨#[13, 10]⟩] W fun e w' => e = .returned (.bool true) ∧ W = w' := fun W => by have := HP W; rw [show (ByteArray.mk #[13, 10]).data.toList = [13, 10] from rfl, e1] at this; exact this.mono fun e w' hh => ⟨hh.1, hh.2.symm⟩
      exact (be_a g s k a b c sz n p v st w b1 (by omega) hs (Lib.hid HP')).mono fun e w' hh => cv hh
    | false =>
      have HP' : ∀ W, Calls Tryd.prog 58 #[.string (s.extract k s.size), .string ⟨#[13, 10]⟩] W fun e w' => e = .returned (.bool false) ∧ W = w' := fun W => by have := HP W; rw [show (ByteArray.mk #[13, 10]).data.toList = [13, 10] from rfl, e1] at this; exact this.mono fun e w' hh => ⟨hh.1, hh.2.symm⟩
      cases e2 : Lib.hasPrefix [13, 10] (s.data.toList.drop k) with
      | true =>
        have HP2' : ∀ W, Calls Tryd.prog 58 #[.string ⟨#[13, 10]⟩, .string (s.extract k s.size)] W fun e w' => e = .returned (.bool true) ∧ W = w' := fun W => by have := HP2 W; rw [show (ByteArray.mk #[13, 10]).data.toList = [13, 10] from rfl, e2] at this; exact this.mono fun e w' hh => ⟨hh.1, hh.2.symm⟩
        exact (be_b g s k a b c sz n p v st w b1 (by omega) hs (Lib.hid HP') (Lib.hid HP2')).mono fun e w' hh => cv hh
      | false =>
        have HP2' : ∀ W, Calls Tryd.prog 58 #[.string ⟨#[13, 10]⟩, .string (s.extract k s.size)] W fun e w' => e = .returned (.bool false) ∧ W = w' := fun W => by have := HP2 W; rw [show (ByteArray.mk #[13, 10]).data.toList = [13, 10] from rfl, e2] at this; exact this.mono fun e w' hh => ⟨hh.1, hh.2.symm⟩
        exact (be_c g s k a b c sz n p v st w b1 (by omega) hs (Lib.hid HP') (Lib.hid HP2')).mono fun e w' hh => cv hh
  | 3, _ =>
    have HLN := line_c g s k a b c sz n p v st 431 w b1 hM hg hs (by omega)
    unfold stp
    simp only
    cases hn : nxE s.data.toList k a 431 with
    | error e0 =>
      rw [hn] at HLN
      exact (fl_e g s k a b c sz n p v st e0 w b1 (Lib.hid HLN)).mono fun e w' hh => cv hh
    | ok j =>
      rw [hn] at HLN
      have hr := nx_room hk hn
      have hll : ((s.data.toList.drop k).take j).length = j := by rw [List.length_take, List.length_drop]; omega
      have hem : (mkS ((s.data.toList.drop k).take j)).toList.isEmpty = decide (j = 0) := by
        rw [Lib.toList_data, data_mkS]
        cases hc : (s.data.toList.drop k).take j with
        | nil => rw [hc] at hll; simp at hll; simp [← hll]
        | cons x y => rw [hc] at hll; simp at hll; simp; omega
      have HOF := fun W => OfField_c (mkS ((s.data.toList.drop k).take j)) W (by rw [size_mkS, hll]; omega)
      rw [data_mkS] at HOF
      simp only
      by_cases hj : j = 0
      · rw [if_pos hj]
        rw [decide_eq_true hj] at hem
        subst hj
        exact (fl_z g s k a b c sz n p v st (k + (0 + 2)) _ w b1 (Lib.hid HLN) hem).mono fun e w' hh => cv hh
      · rw [if_neg hj]
        rw [decide_eq_false hj] at hem
        by_cases hb' : n = b
        · rw [if_pos hb']
          exact (fl_l g s k a b c sz n p v st (k + (j + 2)) _ w b1 (Lib.hid HLN) hem (beq_iff_eq.2 hb')).mono fun e w' hh => cv hh
        · rw [if_neg hb']
          cases ho : ofL ((s.data.toList.drop k).take j) with
          | none =>
            rw [ofV_no ho] at HOF
            exact (fl_n g s k a b c sz n p v st (k + (j + 2)) _ _ _ w b1 (Lib.hid HLN) hem (beq_eq_false_iff_ne.2 hb') (Lib.hid HOF)).mono fun e w' hh => cv hh
          | some y =>
            rw [ofV_yes ho] at HOF
            exact (fl_o g s k a b c sz n p v st (k + (j + 2)) _ _ _ w b1 (Lib.hid HLN) hem (beq_eq_false_iff_ne.2 hb') h0 (by omega) (Lib.hid HOF)).mono fun e w' hh => cv hh
theorem cg_at {g : Nat} {s : ByteArray} {k : Nat} {a b c sz n st : Int} {l : List UInt8} {w : World} (h : St g s k a b c sz n l st w) : cg w ⟨g, 1, none⟩ = .int .i64 (k : Int) := by
  obtain ⟨p, v, h, _⟩ := h
  unfold cg
  rw [show w.cell? ⟨g, 1, none⟩ = some (.int .i64 (k : Int)) from heap_cell h 1]; rfl
def nlN (v : Value) : Nat := match v with | .nilFunc => 0 | _ => 1
theorem mach_end {l : List UInt8} {a b c : Int} {f : Nat} {x : MS} (h : 4 ≤ x.kd) : mach l a b c f x = x := by
  cases f with
  | zero => rfl
  | succ f => rw [mach, if_pos h]
/-- what holds at the loop's head -/
def RnR (g : Nat) (s : ByteArray) (a b c : Int) (q : MS) (w : World) (v : Value) (wr : World) (x : MS) (f : Nat) : Prop := v = kV g x.kd ∧ mach s.data.toList a b c f x = q ∧ (x.kd = 4 ∨ s.data.toList.length < x.k + f) ∧ St g s x.k a b c x.sz x.n x.bd x.st wr ∧ Inv x s.data.toList.length ∧ Mx wr ∧ Below g w wr ∧ x.kd ≤ 4
def x0 : MS := ⟨0, 0, 0, 0, [], 0⟩
theorem ev_nn : ∀ W : World, (binOp .neq 51 .nilFunc .nilFunc).run Tryd.prog W = .ok (.bool false) W := fun _ => by kernel_rfl
theorem ev_fn (nf g : Nat) : ∀ W : World, (binOp .neq 51 (.func (.func nf) #[.pointer (some ⟨g, 0, none⟩)] #[]) .nilFunc).run Tryd.prog W = .ok (.bool true) W := fun _ => by kernel_rfl
set_option maxRecDepth 100000 in
set_option maxHeartbeats 2000000 in
theorem run_c (g : Nat) (s : ByteArray) (a b c : Int) (w : World) (h : St g s 0 a b c 0 0 [] 0 w) (hM : Mx w) (hg : 3 < g) (hs : s.size ≤ 10000) (hc0 : 0 ≤ c) (hc1 : c ≤ 1048576) (q : MS) (hq : mach s.data.toList a b c (s.data.toList.length + 1) x0 = q) :
    Calls Tryd.prog 16 #[.pointer (some ⟨g, 0, none⟩)] w fun e w' => e = .returned (.tuple #[]) ∧ St g s q.k a b c q.sz q.n q.bd q.st w' ∧ Below g w w' := by
  have HR0 : Hid (RnR g s a b c q w (fnV 21 g) w x0 (s.data.toList.length + 1)) := ⟨rfl, hq, .inr (by show _ < 0 + _; omega), h, ⟨Nat.zero_le _, Nat.le_refl _, Int.le_refl _, Int.le_refl _, fun e => by cases e⟩, hM, Below.refl _ _, by decide⟩
  clear h hM hq
  have hnn := ev_nn
  have hfn := ev_fn
  go_enter Tryd.func16, Tryd.ntmps16
  go_wp2
  go_loopw [2] (fun v wr => ∃ x f, RnR g s a b c q w v wr x f) (fun v wr => 2 * (s.data.toList.length - (intOf (cg wr ⟨g, 1, none⟩)).toNat) + nlN v)
  case atStart => exact ⟨_, _, HR0.out⟩
  case round =>
    clear HR0
    obtain ⟨x, f, hv, hm, hf, hS, hI, hM, hB, h4⟩ := hrel
    have HCG := Lib.hid (cg_at hS)
    by_cases hd : x.kd < 4
    · have hv' := hv.trans (kV_lt hd)
      subst hv'
      have HC := Lib.hid (step_c g s a b c x wr hS hI hd hM hg hs hc0 hc1)
      obtain ⟨hI2, hp, hkk⟩ := stp_inv (a := a) (b := b) (c := c) hI hd
      have hf1 : 0 < f := by have := hI.hk; omega
      obtain ⟨f', rfl⟩ : ∃ f', f = f' + 1 := ⟨f - 1, by omega⟩
      rw [mach, if_neg (by omega)] at hm
      have hkl := hI.hk
      have hkl2 := hI2.hk
      have hnf : kF x.kd = 21 ∨ kF x.kd = 29 ∨ kF x.kd = 41 ∨ kF x.kd = 28 := by
        match x.kd, hd with
        | 0, _ => exact .inl rfl
        | 1, _ => exact .inr (.inl rfl)
        | 2, _ => exact .inr (.inr (.inl rfl))
        | 3, _ => exact .inr (.inr (.inr rfl))
      revert HC hm hp hI2 hkk hkl2 hnf
      generalize stp s.data.toList a b c x = y
      generalize kF x.kd = nf
      intro HC hI2 hp hkk hm hkl2 hnf
      have HM2 := Lib.hid hm
      have HI2 := Lib.hid hI2
      have HB := Lib.hid hB
      have HMX := Lib.hid hM
      have hxk := hkl
      generalize x.k = xk at *
      clear hm hI2 hB hM hS hv hI
      unfold StQ at HC
      rcases hnf with rfl | rfl | rfl | rfl
      all_goals
        go_wp2_with fail
        refine HC.out.mono ?_
        rintro e w1 ⟨rfl, hS1, hB1⟩
        have HN : Hid (RnR g s a b c q w (kV g y.kd) w1 y f') := by
          rcases hp with h | h
          · exact ⟨rfl, HM2.out, .inl h, hS1, HI2.out, HMX.out.bel hB1 hg, HB.out.trans hB1, by omega⟩
          · exact ⟨rfl, HM2.out, .inr (by omega), hS1, HI2.out, HMX.out.bel hB1 hg, HB.out.trans hB1, by omega⟩
        have HC1 := Lib.hid (cg_at hS1)
        have HMS : Hid (2 * (s.data.toList.length - y.k) + nlN (kV g y.kd) < 2 * (s.data.toList.length - xk) + 1) := by
          rcases hp with h | h
          · rw [kV_ge (by omega)]; show 2 * _ + 0 < _; omega
          · rw [kV_lt h.1]; show 2 * _ + 1 < _; omega
        clear hS1 hB1 hp
        generalize kV g y.kd = vy at HN HMS ⊢
        go_wp2
        go_roundw
        case rel => exact ⟨_, _, HN.out⟩
        case measure =>
          rw [HC1.out, HCG.out]
          have := HMS.out
          simp only [intOf, Int.toNat_natCast]
          exact this
    · have hge : 4 ≤ x.kd := by omega
      have hv' := hv.trans (kV_ge hge)
      subst hv'
      rw [mach_end hge] at hm
      subst hm
      have HS := Lib.hid hS
      have HB := Lib.hid hB
      clear hS hB hv hI hM
      go_wp2
      go_end0
      exact ⟨rfl, HS.out, HB.out⟩
end Go.Proofs.YteegbcjpganobaaDoor.Hd

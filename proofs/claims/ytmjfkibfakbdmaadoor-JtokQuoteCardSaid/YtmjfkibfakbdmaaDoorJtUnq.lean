/- The contract of package jtok's Unquote: what a text in quotes stands for, or that it is none; for every text of at most a thousand bytes; where the tables lie as the program's text lays them. -/
import Derived.Test.YtmjfkibfakbdmaaDoorJtPub
namespace Go.Proofs.YtmjfkibfakbdmaaDoor.Jt
open Go.RowKit
set_option linter.unusedSimpArgs false
set_option linter.unusedVariables false

/-- what a text in quotes stands for -/
def unqL (l : List UInt8) : Option (List UInt8) :=
  if 0 < l.length ∧ at0 l 0 = 34 then (match textA l 1 with | none => none | some r => if r.2 = l.length then some r.1 else none) else none
theorem unq_tok {l t : List UInt8} (h : unqL l = some t) : tokA l 0 = (⟨7, 0, l.length, t, 0⟩, 0) := by
  unfold unqL at h
  by_cases hc : 0 < l.length ∧ at0 l 0 = 34
  · rw [if_pos hc] at h
    have hb : endP blkB l 0 = 0 := endP_no hc.1 (by
      unfold blkB
      rw [← at0_get hc.1, hc.2]; decide)
    rw [tokA_at hb hc.1]
    unfold tokP
    rw [hc.2, if_neg (by decide), if_pos rfl]
    cases hx : textA l 1 with
    | none => rw [hx] at h; cases h
    | some r =>
      rw [hx] at h
      simp only at h
      by_cases hr : r.2 = l.length
      · rw [if_pos hr] at h
        injection h with h
        show ((⟨7, 0, r.2, r.1, 0⟩ : Tok), (0 : Int)) = _
        rw [hr, h]
      · rw [if_neg hr] at h; cases h
  · rw [if_neg hc] at h; cases h
theorem wrdK_7 (l : List UInt8) : wrdK l ≠ 7 := by unfold wrdK; (repeat' split) <;> omega
theorem sgnI_7 (c : Int) : sgnI c ≠ 7 := by unfold sgnI; (repeat' split) <;> omega
theorem tok_unq {l t : List UInt8} {n : Int} {b : Nat} (hb : b = l.length) (h : tokA l 0 = (⟨7, 0, b, t, n⟩, 0)) : unqL l = some t := by
  unfold tokA at h
  by_cases hp : l.length ≤ endP blkB l 0
  · rw [if_pos hp] at h; cases h
  · rw [if_neg hp] at h
    unfold tokP at h
    by_cases h1 : sgnI (at0 l (endP blkB l 0)) ≠ 0
    · rw [if_pos h1] at h
      simp only [Prod.mk.injEq, Tok.mk.injEq] at h
      exact absurd h.1.1 (sgnI_7 _)
    · rw [if_neg h1] at h
      by_cases h2 : at0 l (endP blkB l 0) = 34
      · rw [if_pos h2] at h
        cases hx : textA l (endP blkB l 0 + 1) with
        | none => rw [hx] at h; cases h
        | some r =>
          rw [hx] at h
          simp only [Prod.mk.injEq, Tok.mk.injEq] at h
          obtain ⟨⟨_, e0, e1, e2, _⟩, _⟩ := h
          rw [e0] at h2 hx hp
          unfold unqL
          rw [if_pos ⟨by omega, h2⟩, hx]
          show (if r.2 = l.length then some r.1 else none) = some t
          rw [if_pos (by omega), e2]
      · rw [if_neg h2] at h
        by_cases h3 : at0 l (endP blkB l 0) = 45 ∨ Ch.digB (at0 l (endP blkB l 0)) = true
        · rw [if_pos h3] at h
          split at h
          · simp only [Prod.mk.injEq, Tok.mk.injEq] at h; omega
          · unfold zT at h; simp only [Prod.mk.injEq, Tok.mk.injEq] at h; omega
        · rw [if_neg h3] at h
          split at h
          · unfold zT at h; simp only [Prod.mk.injEq, Tok.mk.injEq] at h; omega
          · simp only [Prod.mk.injEq, Tok.mk.injEq] at h; exact absurd h.1.1 (wrdK_7 _)
def unqV (o : Option (List UInt8)) : Ending := match o with | none => .returned (.tuple #[.string ⟨#[]⟩, .int .i64 3]) | some t => .returned (.tuple #[.string (mkS t), .int .i64 0])
theorem neqFlt (a e : Int) : ∀ W : World, (binOp .neq 48 (.iface 52 (.agg #[.int .i64 a, .int .i64 e])) .nilIface).run Tryd.prog W = .ok (.bool true) W := fun _ => by kernel_rfl
theorem neqNil : ∀ W : World, (binOp .neq 48 .nilIface .nilIface).run Tryd.prog W = .ok (.bool false) W := fun _ => by kernel_rfl
set_option maxRecDepth 100000 in
set_option maxHeartbeats 4000000 in
theorem Unquote_c (s : ByteArray) (w : World) (hE : Env w) (hs : s.size ≤ 1000) :
    Calls Tryd.prog 16 #[.string s] w fun e w' => e = unqV (unqL s.data.toList) ∧ Below w.heap.size w w' := by
  have HN := Lib.hid (next_c s 0 w hE.1 hs (by omega))
  have n1 := neqNil
  have hl := Lib.hid (size_l s)
  by_cases he : (tokA s.data.toList 0).2 = 0
  · rw [he, er0] at HN
    have HU : Hid (∀ tk ta tb tt tn, (tokA s.data.toList 0).1 = ⟨tk, ta, tb, tt, tn⟩ → unqL s.data.toList = if tk = 7 ∧ ta = 0 ∧ tb = s.size then some tt else none) := fun tk ta tb tt tn ht => by
      by_cases hc : tk = 7 ∧ ta = 0 ∧ tb = s.size
      · rw [if_pos hc]
        obtain ⟨rfl, rfl, hb⟩ := hc
        exact tok_unq (b := tb) (by rw [← hl.out]; exact hb) (by rw [← ht, ← he])
      · rw [if_neg hc]
        cases hu : unqL s.data.toList with
        | none => rfl
        | some t =>
          have := unq_tok hu
          rw [this] at ht
          simp only [Tok.mk.injEq] at ht
          exact absurd ⟨ht.1.symm, ht.2.1.symm, by rw [hl.out]; exact ht.2.2.1.symm⟩ hc
    clear he hE
    revert HN HU
    generalize (tokA s.data.toList 0).1 = T
    intro HN HU
    obtain ⟨tk, ta, tb, tt, tn⟩ := T
    have HU2 := Lib.hid (HU.out tk ta tb tt tn rfl)
    simp only [tupV, tkV, tokV] at HN
    clear HU
    by_cases h7 : tk = 7
    · have q7 : ((tk : Int) != 7) = false := by simp; omega
      by_cases h0 : ta = 0
      · have q0 : ((ta : Int) != 0) = false := by simp; omega
        by_cases hb : tb = s.size
        · have qb : ((tb : Int) != (s.size : Int)) = false := by simp; omega
          have HR : Hid (unqL s.data.toList = some tt) := by show unqL s.data.toList = _; rw [HU2.out, if_pos ⟨h7, h0, hb⟩]
          clear HU2 h7 h0 hb
          go_enter Tryd.func16, Tryd.ntmps16
          go_wp2_with (go_at_call 19; refine HN.out.mono ?_; rintro e w1 ⟨rfl, hb1⟩; have B1 := Lib.hid hb1; clear hb1)
          go_ret2
          exact ⟨by rw [HR.out]; rfl, B1.out.alloc B1.out.size _⟩
        · have qb : ((tb : Int) != (s.size : Int)) = true := by simp; omega
          have HR : Hid (unqL s.data.toList = none) := by show unqL s.data.toList = _; rw [HU2.out, if_neg (fun g => hb g.2.2)]
          clear HU2 h7 h0 hb
          go_enter Tryd.func16, Tryd.ntmps16
          go_wp2_with (go_at_call 19; refine HN.out.mono ?_; rintro e w1 ⟨rfl, hb1⟩; have B1 := Lib.hid hb1; clear hb1)
          go_ret2
          exact ⟨by rw [HR.out]; rfl, B1.out.alloc B1.out.size _⟩
      · have q0 : ((ta : Int) != 0) = true := by simp; omega
        have HR : Hid (unqL s.data.toList = none) := by show unqL s.data.toList = _; rw [HU2.out, if_neg (fun g => h0 g.2.1)]
        clear HU2 h7 h0
        go_enter Tryd.func16, Tryd.ntmps16
        go_wp2_with (go_at_call 19; refine HN.out.mono ?_; rintro e w1 ⟨rfl, hb1⟩; have B1 := Lib.hid hb1; clear hb1)
        go_ret2
        exact ⟨by rw [HR.out]; rfl, B1.out.alloc B1.out.size _⟩
    · have q7 : ((tk : Int) != 7) = true := by simp; omega
      have HR : Hid (unqL s.data.toList = none) := by show unqL s.data.toList = _; rw [HU2.out, if_neg (fun g => h7 g.1)]
      clear HU2 h7
      go_enter Tryd.func16, Tryd.ntmps16
      go_wp2_with (go_at_call 19; refine HN.out.mono ?_; rintro e w1 ⟨rfl, hb1⟩; have B1 := Lib.hid hb1; clear hb1)
      go_ret2
      exact ⟨by rw [HR.out]; rfl, B1.out.alloc B1.out.size _⟩
  · have HR : Hid (unqL s.data.toList = none) := by
      show unqL s.data.toList = none
      cases hu : unqL s.data.toList with
      | none => rfl
      | some t => rw [unq_tok hu] at he; exact absurd rfl he
    rw [tokA_zero he, er1 he, zT_v] at HN
    simp only [tupV, tokV, fltV] at HN
    have n2 := neqFlt (endP blkB s.data.toList 0 : Nat) (tokA s.data.toList 0).2
    clear he hE
    revert HN n2
    generalize (tokA s.data.toList 0).2 = te
    generalize endP blkB s.data.toList 0 = q
    intro HN n2
    go_enter Tryd.func16, Tryd.ntmps16
    go_wp2_with (go_at_call 19; refine HN.out.mono ?_; rintro e w1 ⟨rfl, hb1⟩; have B1 := Lib.hid hb1; clear hb1)
    go_ret2
    exact ⟨by rw [HR.out]; rfl, B1.out.alloc B1.out.size _⟩
end Go.Proofs.YtmjfkibfakbdmaaDoor.Jt

/- Contracts of package reply's putField and right: for fields of at most two million bytes. -/
import Derived.Test.YtolfenachbbjdaaDoorRpB
namespace Go.Proofs.YtolfenachbbjdaaDoor.Rp
open Go.RowKit Ch Hd
set_option linter.unusedSimpArgs false
set_option linter.unusedVariables false

def fldB (f : FB) : List UInt8 := f.1.data.toList ++ [58, 32] ++ f.2.data.toList ++ [13, 10]
theorem fld_data (x y : ByteArray) : (x ++ ⟨#[58, 32]⟩ ++ y ++ ⟨#[13, 10]⟩ : ByteArray).data.toList = fldB (x, y) := by
  simp [fldB]
theorem fld_len (f : FB) : (fldB f).length = f.1.size + 2 + f.2.size + 2 := by
  have h1 := Lib.size_eq f.1
  have h2 := Lib.size_eq f.2
  unfold fldB
  rw [List.length_append, List.length_append, List.length_append, ← h1, ← h2]
  rfl
set_option maxRecDepth 100000 in
set_option maxHeartbeats 2000000 in
theorem put_c (b : Nat) (l : List UInt8) (x y : ByteArray) (w : World) (h : Jt.Bld b l w) (hx : x.size ≤ 2000000) (hy : y.size ≤ 2000000) (hl : l.length ≤ 50000000) :
    Calls Tryd.prog 26 #[.pointer (some ⟨b, 0, none⟩), .agg #[.string x, .string y]] w fun e w' => e = .returned (.tuple #[]) ∧ Jt.Bld b (l ++ fldB (x, y)) w' ∧ Below b w w' := by
  have hlt := h.lt
  have hsz : (x ++ ⟨#[58, 32]⟩ ++ y ++ ⟨#[13, 10]⟩ : ByteArray).size ≤ 5000000 := by
    rw [Lib.size_eq, fld_data, fld_len]
    show x.size + 2 + y.size + 2 ≤ _
    omega
  have HW := Lib.hid (fun W (hh : Jt.Bld b l W) => Jt.wstr_c b l (x ++ ⟨#[58, 32]⟩ ++ y ++ ⟨#[13, 10]⟩) W hh (by omega))
  rw [fld_data] at HW
  have hba := (Below.refl w.heap.size w).alloc (Nat.le_refl _) (.cells #[.string x, .string y] 61)
  have HB1 : Hid (Jt.Bld b l (w.alloc (.cells #[.string x, .string y] 61))) := h.go hba
  have HBA := Lib.hid hba
  clear h hba hsz
  go_enter Tryd.func26, Tryd.ntmps26
  go_wp2_with fail
  refine (HW.out _ HB1.out).mono ?_
  rintro e w1 ⟨rfl, hB, hb⟩
  have HB := Lib.hid hB
  have HBE := Lib.hid ((HBA.out.mono (Nat.le_of_lt hlt)).trans hb)
  clear hB hb
  go_wp2
  go_end0
  exact ⟨rfl, HB.out, HBE.out⟩
def rightB (n : Int) (fs : List FB) (body : ByteArray) : Bool := decide (200 ≤ n) && decide (n ≤ 599) && !(barB n && !body.toList.isEmpty) && !fs.any pB
set_option maxRecDepth 100000 in
set_option maxHeartbeats 2000000 in
theorem right_c (n : Int) (v : Value) (fs : List FB) (body : ByteArray) (w : World) (hR : RdF v fs w) (hm : fs.length ≤ 1000000) (hs : ∀ f ∈ fs, smallF f) :
    Calls Tryd.prog 23 #[.agg #[.int .i64 n, v, .string body]] w fun e w' => e = .returned (.bool (rightB n fs body)) ∧ Below w.heap.size w w' := by
  have hba := (Below.refl w.heap.size w).alloc (Nat.le_refl _) (.cells #[.int .i64 n, v, .string body] 31)
  have HH := Lib.hid (has_c v fs (w.alloc (.cells #[.int .i64 n, v, .string body] 31)) (hR.go hba) hm hs)
  have HB := Lib.hid (fun W => Bare_c n W)
  have HBA := Lib.hid hba
  obtain ⟨ao, cap, rfl, _⟩ := hR
  clear hba hs hm
  by_cases h1 : n < 200
  · have e : rightB n fs body = false := by unfold rightB; rw [decide_eq_false (by omega : ¬ 200 ≤ n)]; rfl
    have e1 : decide (n < 200) = true := decide_eq_true h1
    rw [e]
    clear e
    go_enter Tryd.func23, Tryd.ntmps23
    go_wp2
    go_ret
    exact ⟨rfl, HBA.out⟩
  by_cases h2 : 599 < n
  · have e : rightB n fs body = false := by unfold rightB; rw [decide_eq_false (by omega : ¬ n ≤ 599)]; simp
    have e1 : decide (n < 200) = false := decide_eq_false h1
    have e2 : decide (599 < n) = true := decide_eq_true h2
    rw [e]
    clear e
    go_enter Tryd.func23, Tryd.ntmps23
    go_wp2
    go_ret
    exact ⟨rfl, HBA.out⟩
  have e1 : decide (n < 200) = false := decide_eq_false h1
  have e2 : decide (599 < n) = false := decide_eq_false h2
  have hn1 : decide (200 ≤ n) = true := decide_eq_true (by omega)
  have hn2 : decide (n ≤ 599) = true := decide_eq_true (by omega)
  have e : rightB n fs body = (!(barB n && !body.toList.isEmpty) && !fs.any pB) := by unfold rightB; rw [hn1, hn2]; rfl
  rw [e]
  clear e hn1 hn2
  generalize fs.any pB = q at HH ⊢
  cases hb : barB n with
  | false =>
    rw [hb] at HB
    show Calls _ _ _ _ fun e w' => e = .returned (.bool !q) ∧ _
    clear hb
    go_enter Tryd.func23, Tryd.ntmps23
    go_wp2_with (first
      | (go_at_call 22; refine (HB.out _).mono ?_; rintro e w1 ⟨rfl, hw⟩; rw [← hw]; clear hw)
      | (go_at_call 36; refine HH.out.mono ?_; rintro e w2 ⟨rfl, hb2⟩; have HB2 : Hid (Below w.heap.size w w2) := HBA.out.trans (hb2.mono HBA.out.size); clear hb2))
    go_ret
    exact ⟨rfl, HB2.out⟩
  | true =>
    rw [hb] at HB
    clear hb
    cases he : body.toList.isEmpty with
    | true =>
      show Calls _ _ _ _ fun e w' => e = .returned (.bool !q) ∧ _
      go_enter Tryd.func23, Tryd.ntmps23
      go_wp2_with (first
        | (go_at_call 22; refine (HB.out _).mono ?_; rintro e w1 ⟨rfl, hw⟩; rw [← hw]; clear hw)
        | (go_at_call 36; refine HH.out.mono ?_; rintro e w2 ⟨rfl, hb2⟩; have HB2 : Hid (Below w.heap.size w w2) := HBA.out.trans (hb2.mono HBA.out.size); clear hb2))
      go_ret
      exact ⟨rfl, HB2.out⟩
    | false =>
      show Calls _ _ _ _ fun e w' => e = .returned (.bool false) ∧ _
      go_enter Tryd.func23, Tryd.ntmps23
      go_wp2_with (first
        | (go_at_call 22; refine (HB.out _).mono ?_; rintro e w1 ⟨rfl, hw⟩; rw [← hw]; clear hw))
      go_ret
      exact ⟨rfl, HBA.out⟩
end Go.Proofs.YtolfenachbbjdaaDoor.Rp

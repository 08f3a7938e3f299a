/- The document's Add, whole; entries held against one another; the law's Same of a list and the same list; no other condition. -/
import Derived.Test.YtcmcbocegdejjaaClL
import Derived.Laws.StructEq
namespace Go.Proofs.Ytcmcbocegdejjaa.Cl
open Go.RowKit Go.Lib Go.Shelf Go.Sort
set_option linter.unusedSimpArgs false
set_option linter.unusedVariables false

abbrev IsT (B d : Nat) (gd : Option Nat) (m : Int) (s : LS) (W : World) : Prop := IsR B d gd m s.all s.fl s.la W
abbrev Tq (B d : Nat) (gd : Option Nat) (m : Int) (s : LS) (w W : World) : Prop := Rq B d gd m s.all s.fl s.la w W
theorem AddR_c {B d : Nat} {gd : Option Nat} {m : Int} {s : LS} {w : World} (h : IsT B d gd m s w) (hB : B ≤ w.heap.size) (rev : Int) (ao : Option Addr) (cap : Nat) (cs : List Chg) (hA : Apt d gd (.slice ao cs.length cap) cs w) (hm : 1 ≤ m) (hl : s.all.length ≤ 100000) (hcl : cs.length ≤ 100000) :
    Calls Try.prog 21 #[.pointer (some ⟨d, 0, none⟩), .int .i64 rev, .slice ao cs.length cap] w fun e w' => e = .returned (.int .i64 (addE s rev)) ∧ Tq B d gd m (s.add m rev cs) w w' := by
  by_cases hr : rev ≤ s.la
  · unfold addE LS.add
    rw [if_pos hr, if_pos hr]
    refine (AddR_arg h rev _ hr).mono ?_
    rintro e w' ⟨rfl, rfl⟩
    exact ⟨rfl, gd, h, Ch.of (Below.refl _ _), .inl rfl⟩
  · unfold addE LS.add
    rw [if_neg hr, if_neg hr]
    exact AddR_ok h hB rev ao cap cs (by omega) hA hm hl hcl
set_option maxRecDepth 10000 in
set_option maxHeartbeats 1000000 in
theorem eqIn (x1 x2 : ByteArray) (x3 : Bool) (d : Nat) (W : World) : (Op.equalIn (d + 2) 55 (.agg #[.string x1, .string x2, .bool x3]) (.agg #[.string x1, .string x2, .bool x3])).run Try.prog W = .ok true W := by
  have u9 := Try.underlying9
  have hS2 : Try.prog.underlying 55 = some (.struct (Try.prog.fieldsOf 55)) := by kernel_rfl
  have hp2 : Try.prog.stoodInHeld 55 = false := by kernel_rfl
  rw [run_equalIn_agg W (d + 1) 55 _ _ hS2 hp2]
  clear hS2 hp2
  simp only [Program.fieldsOf, Try.underlying55]
  go_simp
set_option maxRecDepth 10000 in
set_option maxHeartbeats 1000000 in
theorem eqE (x : Ent) (W : World) : (Op.equalIn 10000 57 (aggE x) (aggE x)).run Try.prog W = .ok true W := by
  obtain ⟨x0, x1, x2, x3⟩ := x
  have u9 := Try.underlying9
  have hS : Try.prog.underlying 57 = some (.struct (Try.prog.fieldsOf 57)) := by kernel_rfl
  have hp : Try.prog.stoodInHeld 57 = false := by kernel_rfl
  have hI := eqIn x1 x2 x3 9997 W
  unfold aggE
  rw [show (10000 : Nat) = 9999 + 1 from rfl, run_equalIn_agg W 9999 57 _ _ hS hp]
  clear hS hp
  simp only [Program.fieldsOf, Try.underlying57]
  go_simp
theorem neqE (x : Ent) (W : World) : (binOp .neq 57 (aggE x) (aggE x)).run Try.prog W = .ok (.bool false) W := by
  have h := eqE x W
  unfold aggE at h ⊢
  rw [run_neq_struct, h]
  rfl
set_option maxRecDepth 100000 in
set_option maxHeartbeats 4000000 in
/-- the law's Same, of entries that are the same -/
theorem Same_c {v1 v2 : Value} {l : List Ent} {w : World} (hA : RdE v1 l w) (hB : RdE v2 l w) (hm : l.length ≤ 1000000) :
    Calls Try.prog 16 #[v1, v2] w fun e w' => e = .returned (.bool true) ∧ Below w.heap.size w w' := by
  have HA := Lib.hid hA
  have HB := Lib.hid hB
  obtain ⟨a1, c1, rfl, _⟩ := hA
  obtain ⟨a2, c2, rfl, _⟩ := hB
  go_enter Try.func16, Try.ntmps16
  go_wp2
  go_loopw [14] (fun v wr => ∃ j : Nat, j ≤ l.length ∧ v = .int .i64 j ∧ Hid (Below w.heap.size w wr)) (fun v _ => l.length - (intOf v).toNat)
  case atStart => exact ⟨0, by omega, rfl, Lib.hid (Below.refl _ _)⟩
  case round =>
    obtain ⟨j, hj, rfl, HBW⟩ := hrel
    by_cases hlt : j < l.length
    · obtain ⟨g1, o1, rfl, hg1, hat1⟩ := (HA.out.go HBW.out).at (by omega)
      obtain ⟨g2, o2, rfl, hg2, hat2⟩ := (HB.out.go HBW.out).at (by omega)
      have hj0 : (0 : Int) ≤ (j : Int) := by omega
      have hjl : (j : Int) < (l.length : Int) := by omega
      obtain ⟨⟨x0, x1, x2, x3⟩, hx⟩ : ∃ x : Ent, l[j] = x := ⟨_, rfl⟩
      obtain ⟨p0, p1, p2, p3⟩ := cell4 hat1 hlt
      obtain ⟨q0, q1, q2, q3⟩ := cell4 hat2 hlt
      rw [hx] at p0 p1 p2 p3 q0 q1 q2 q3
      simp only at p0 p1 p2 p3 q0 q1 q2 q3
      obtain ⟨W2, hW2, hk2, hb2⟩ := new4 wr (.int .i64 x0) (.string x1) (.string x2) (.bool x3) 53
      have HW2 := Lib.hid hW2
      obtain ⟨d0, d1, d2, d3⟩ := cells4 hk2
      have HB2 : Hid (Below w.heap.size w W2) := HBW.out.trans (hb2.mono HBW.out.size)
      have HB3 : Hid (∀ n, Below w.heap.size w (W2.drewN n)) := fun n => HB2.out.trans ((bdrN W2 n).mono HB2.out.size)
      have hn1 : g1 ≠ wr.heap.size := by omega
      have hn2 : g2 ≠ wr.heap.size := by omega
      have r0 := (hb2.cell (p := ⟨g1, o1 + j * 4, none⟩) hg1).trans p0
      have r1 := (hb2.cell (p := ⟨g1, o1 + j * 4 + 1, none⟩) hg1).trans p1
      have r2 := (hb2.cell (p := ⟨g1, o1 + j * 4 + 2, none⟩) hg1).trans p2
      have r3 := (hb2.cell (p := ⟨g1, o1 + j * 4 + 3, none⟩) hg1).trans p3
      have hE := neqE (x0, x1, x2, x3)
      unfold aggE at hE
      simp only at hE
      clear hat1 hat2 hx hW2 hk2 hb2
      go_wp2_with fail
      rw [← HW2.out]
      go_quiet (fail)
      go_wp2_with fail
      go_roundw
      case rel => exact ⟨j + 1, by omega, by go_num, Lib.hid (HB3.out _)⟩
      case measure => simp [intOf]; omega
    · have hjl : ¬ (j : Int) < (l.length : Int) := by omega
      go_wp2
      go_ret
      exact ⟨rfl, HBW.out⟩
end Go.Proofs.Ytcmcbocegdejjaa.Cl

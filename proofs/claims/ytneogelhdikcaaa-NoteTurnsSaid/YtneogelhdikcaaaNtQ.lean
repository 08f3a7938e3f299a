/- The law's Same at the same entries; the document's Since; both outboxes beside one another; no other condition. -/
import Derived.Test.YtneogelhdikcaaaNtP
import Derived.Laws.StructEq
import Derived.Deep.QuietTactic
namespace Go.Proofs.Ytneogelhdikcaaa.Nt
open Go.RowKit Go.Lib Go.Maps
set_option linter.unusedSimpArgs false
set_option linter.unusedVariables false

set_option maxRecDepth 10000 in
set_option maxHeartbeats 1000000 in
theorem eqE (x : Ent) (W : World) : (Op.equalIn 10000 47 (aggE x) (aggE x)).run Try.prog W = .ok true W := by
  obtain ⟨x0, x1, x2, x3⟩ := x
  have u9 := Try.underlying9
  have hS : Try.prog.underlying 47 = some (.struct (Try.prog.fieldsOf 47)) := by kernel_rfl
  have hp : Try.prog.stoodInHeld 47 = false := by kernel_rfl
  unfold aggE
  rw [show (10000 : Nat) = 9999 + 1 from rfl, run_equalIn_agg W 9999 47 _ _ hS hp]
  clear hS hp
  simp only [Program.fieldsOf, Try.underlying47]
  go_simp
theorem neqE (x : Ent) (W : World) : (binOp .neq 47 (aggE x) (aggE x)).run Try.prog W = .ok (.bool false) W := by
  have h := eqE x W
  unfold aggE at h ⊢
  rw [run_neq_struct, h]
  rfl
set_option maxRecDepth 100000 in
set_option maxHeartbeats 4000000 in
theorem Same_c {v1 v2 : Value} {l : List Ent} {w : World} (hA : RdE v1 l w) (hB : RdE v2 l w) (hm : l.length ≤ 1000000) :
    Calls Try.prog 8 #[v1, v2] w fun e w' => e = .returned (.bool true) ∧ Below w.heap.size w w' := by
  have HA := Lib.hid hA
  have HB := Lib.hid hB
  obtain ⟨a1, c1, rfl, _⟩ := hA
  obtain ⟨a2, c2, rfl, _⟩ := hB
  go_enter Try.func8, Try.ntmps8
  go_wp2
  go_loopw [14] (fun v wr => ∃ j : Nat, j ≤ l.length ∧ v = .int .i64 j ∧ Hid (Below w.heap.size w wr)) (fun v _ => l.length - (intOf v).toNat)
  case atStart => exact ⟨0, by omega, rfl, Lib.hid (Below.refl _ _)⟩
  case round =>
    obtain ⟨j, hj, rfl, HBW⟩ := hrel
    by_cases hlt : j < l.length
    · obtain ⟨g1, o1, rfl, hg1, hat1⟩ := (HA.out.go HBW.out).at (by omega)
      obtain ⟨g2, o2, rfl, hg2, hat2⟩ := (HB.out.go HBW.out).at (by omega)
      have hj0 : (0 : Int) ≤ (j : Int) := by omega
      have hjl : (j : Int) < (l.length : Int) := by omega
      obtain ⟨⟨x0, x1, x2, x3⟩, hx⟩ : ∃ x : Ent, l[j] = x := ⟨_, rfl⟩
      obtain ⟨p0, p1, p2, p3⟩ := cell4 hat1 hlt
      obtain ⟨q0, q1, q2, q3⟩ := cell4 hat2 hlt
      rw [hx] at p0 p1 p2 p3 q0 q1 q2 q3
      simp only at p0 p1 p2 p3 q0 q1 q2 q3
      obtain ⟨W2, hW2, hk2, hb2⟩ := new4 wr (.int .i64 x0) (.int .i64 x1) (.string (mkS x2)) (.bool x3) 55
      have HW2 := Lib.hid hW2
      obtain ⟨d0, d1, d2, d3⟩ := cells4 hk2
      have HB2 : Hid (Below w.heap.size w W2) := HBW.out.trans (hb2.mono HBW.out.size)
      have HB3 : Hid (∀ n, Below w.heap.size w (W2.drewN n)) := fun n => HB2.out.trans ((bdrN W2 n).mono HB2.out.size)
      have hn1 : g1 ≠ wr.heap.size := by omega
      have hn2 : g2 ≠ wr.heap.size := by omega
      have r0 := (hb2.cell (p := ⟨g1, o1 + j * 4, none⟩) hg1).trans p0
      have r1 := (hb2.cell (p := ⟨g1, o1 + j * 4 + 1, none⟩) hg1).trans p1
      have r2 := (hb2.cell (p := ⟨g1, o1 + j * 4 + 2, none⟩) hg1).trans p2
      have r3 := (hb2.cell (p := ⟨g1, o1 + j * 4 + 3, none⟩) hg1).trans p3
      have hE := neqE (x0, x1, x2, x3)
      unfold aggE at hE
      simp only at hE
      clear hat1 hat2 hx hW2 hk2 hb2
      go_wp2_with fail
      rw [← HW2.out]
      go_quiet (fail)
      go_wp2_with fail
      go_roundw
      case rel => exact ⟨j + 1, by omega, by go_num, Lib.hid (HB3.out _)⟩
      case measure => simp [intOf]; omega
    · have hjl : ¬ (j : Int) < (l.length : Int) := by omega
      go_wp2
      go_ret
      exact ⟨rfl, HBW.out⟩
def SinQ (all : List Ent) (M seq : Int) (w : World) (e : Ending) (w' : World) : Prop := ∃ v l z, e = .returned (.tuple #[v, .int .i64 z]) ∧ RdE v l w' ∧ Below w.heap.size w w' ∧ ((seq < ((all.length - M.toNat : Nat) : Int) ∧ z = 9 ∧ l = []) ∨ (¬ seq < ((all.length - M.toNat : Nat) : Int) ∧ (all.length : Int) < seq ∧ z = 1 ∧ l = []) ∨ (¬ seq < ((all.length - M.toNat : Nat) : Int) ∧ ¬ (all.length : Int) < seq ∧ z = 0 ∧ l = all.drop seq.toNat))
set_option maxRecDepth 100000 in
set_option maxHeartbeats 4000000 in
theorem Since_r {B d : Nat} {ga nb : Option Nat} {M : Int} {now : List Tx} {all : List Ent} {w : World} (h : IsRb B d ga nb M now all w) (hM : 1 ≤ M) (ha : all.length ≤ 1000000) (seq : Int) : Calls Try.prog 18 #[.pointer (some ⟨d, 0, none⟩), .int .i64 seq] w (SinQ all M seq w) := by
  have HF := Lib.hid (Floor_r h hM ha)
  have HH := Lib.hid h
  obtain ⟨v, u, hv, ho, _⟩ := h.ex
  obtain ⟨ao, cap, rfl, hlc, hnone⟩ := ho.form
  have HV := Lib.hid hv
  have HO := Lib.hid ho
  clear h hv ho
  by_cases h1 : seq < ((all.length - M.toNat : Nat) : Int)
  · have HQ : Hid (∀ n, SinQ all M seq w (.returned (.tuple #[.slice none 0 0, .int .i64 9])) (w.drewN n)) := fun n => ⟨_, [], 9, rfl, Rd.nil _ _ _ _, bdrN w n, .inl ⟨h1, rfl, rfl⟩⟩
    generalize ((all.length - M.toNat : Nat) : Int) = fl at HF h1
    clear HH HV HO hlc hnone
    go_enter Try.func18, Try.ntmps18
    go_wp2_with fail
    refine HF.out.mono ?_
    rintro e w1 ⟨rfl, n, rfl⟩
    go_wp2
    exact bodyPost_ret (v := .tuple #[.slice none 0 0, .int .i64 9]) (by simp [results, Try.results18, go_sem]) rfl (HQ.out n)
  · by_cases h2 : (all.length : Int) < seq
    · have HQ : Hid (∀ n, SinQ all M seq w (.returned (.tuple #[.slice none 0 0, .int .i64 1])) (w.drewN n)) := fun n => ⟨_, [], 1, rfl, Rd.nil _ _ _ _, bdrN w n, .inr (.inl ⟨h1, h2, rfl, rfl⟩)⟩
      generalize ((all.length - M.toNat : Nat) : Int) = fl at HF h1
      clear HH HO hlc hnone
      go_enter Try.func18, Try.ntmps18
      go_wp2_with fail
      refine HF.out.mono ?_
      rintro e w1 ⟨rfl, n, rfl⟩
      have c0 : (w.drewN n).cell? ⟨d, 0, none⟩ = some (.slice ao all.length cap) := (cells3 HV.out).1
      go_wp2
      exact bodyPost_ret (v := .tuple #[.slice none 0 0, .int .i64 1]) (by simp [results, Try.results18, go_sem]) rfl (HQ.out n)
    · obtain ⟨r, hr⟩ : ∃ r : Nat, seq = (r : Int) := ⟨seq.toNat, by omega⟩
      have HQ : Hid (∀ n v, RdE v (all.drop r) (w.drewN n) → SinQ all M seq w (.returned (.tuple #[v, .int .i64 0])) (w.drewN n)) := fun n v h => ⟨_, all.drop r, 0, rfl, h, bdrN w n, .inr (.inr ⟨h1, h2, rfl, by rw [hr]; rfl⟩)⟩
      subst hr
      have g7 : (r : Int) ≤ (all.length : Int) := by omega
      have g8 : (r : Int) ≤ (cap : Int) := by omega
      have g9 : (0 : Int) ≤ (r : Int) := by omega
      have hdl : (all.drop r).length = all.length - r := List.length_drop
      generalize ((all.length - M.toNat : Nat) : Int) = fl at HF h1
      clear HH
      cases ao with
      | none =>
        obtain ⟨h0, h00⟩ := hnone rfl
        have hl0 : all = [] := List.eq_nil_of_length_eq_zero h0
        subst hl0
        subst h00
        have hr0 : r = 0 := by simpa using g7
        subst hr0
        have HQ2 : Hid (∀ n, SinQ [] M ((0 : Nat) : Int) w (.returned (.tuple #[.slice none 0 0, .int .i64 0])) (w.drewN n)) := fun n => HQ.out n _ (Rd.nil _ _ _ _)
        clear HO hnone hlc HQ g7 g8 g9 h2 h0 ha hdl
        have h1 : ¬ (0 : Int) < fl := h1
        go_enter Try.func18, Try.ntmps18
        go_wp2_with fail
        refine HF.out.mono ?_
        rintro e w1 ⟨rfl, n, rfl⟩
        have c0 : (w.drewN n).cell? ⟨d, 0, none⟩ = some (.slice none 0 0) := (cells3 HV.out).1
        have HF := Lib.hid (HQ2.out n)
        go_wp2
        exact bodyPost_ret (v := .tuple #[.slice none 0 0, .int .i64 0]) (by simp [results, Try.results18, go_sem]) rfl HF.out
      | some a =>
        obtain ⟨g, o, rfl⟩ : ∃ g o, a = ⟨g, o, none⟩ := by
          rcases HO.out.2 with ⟨e, _⟩ | ⟨g, o, c9, e, _⟩
          · cases e
          · injection e with e; injection e with e; exact ⟨g, o, e⟩
        have HQ3 : Hid (∀ n o2 c2, (0 < all.length - r → o2 = o + r * 4) → SinQ all M (r : Int) w (.returned (.tuple #[.slice (some ⟨g, o2, none⟩) (all.length - r) c2, .int .i64 0])) (w.drewN n)) := fun n o2 c2 ho2 => by
          refine HQ.out n _ ⟨_, c2, by rw [hdl], fun h0 => ⟨g, o2, rfl, ?_, fun j u hu => ?_⟩⟩
          · obtain ⟨g', o', e, h1, h2⟩ := HO.out.rd.at (by omega)
            injection e with e; injection e with e1 e2; subst e1 e2
            exact h1
          · obtain ⟨g', o', e, h1, h2⟩ := HO.out.rd.at (by omega)
            injection e with e; injection e with e1 e2; subst e1 e2
            have hj : j < (all.length - r) * 4 := by
              rcases Nat.lt_or_ge j ((all.length - r) * 4) with q | q
              · exact q
              · rw [List.getElem?_eq_none (by rw [eC_len, hdl]; exact q)] at hu; cases hu
            rw [ho2 (by omega)]
            rw [eC_drop, List.getElem?_drop] at hu
            have := h2 _ _ hu
            rw [← Nat.add_assoc] at this
            exact this
        by_cases hrc : r = cap
        · have ecap : cap = all.length := by omega
          rw [ecap] at hrc
          subst ecap
          subst hrc
          have HQ4 : Hid (∀ n, SinQ all M (all.length : Int) w (.returned (.tuple #[.slice (some ⟨g, o, none⟩) 0 0, .int .i64 0])) (w.drewN n)) := fun n => by
            have := HQ3.out n o 0 (fun h => by omega)
            rwa [Nat.sub_self] at this
          clear HO hnone hlc HQ HQ3 h2 hdl g7
          go_enter Try.func18, Try.ntmps18
          go_wp2_with fail
          refine HF.out.mono ?_
          rintro e w1 ⟨rfl, n, rfl⟩
          have c0 : (w.drewN n).cell? ⟨d, 0, none⟩ = some (.slice (some ⟨g, o, none⟩) all.length all.length) := (cells3 HV.out).1
          have HF := Lib.hid (HQ4.out n)
          go_wp2
          exact bodyPost_ret (v := .tuple #[.slice (some ⟨g, o, none⟩) 0 0, .int .i64 0]) (by simp [results, Try.results18, go_sem]) rfl HF.out
        · have hcz : ¬ (r : Int) = (cap : Int) := by omega
          have hcz2 : ¬ cap = r := by omega
          have HQ4 : Hid (∀ n, SinQ all M (r : Int) w (.returned (.tuple #[.slice (some ⟨g, o + r * 4, none⟩) (all.length - r) (cap - r), .int .i64 0])) (w.drewN n)) := fun n => HQ3.out n _ _ (fun _ => rfl)
          clear HO hnone hlc HQ HQ3 hdl hrc
          go_enter Try.func18, Try.ntmps18
          go_wp2_with fail
          refine HF.out.mono ?_
          rintro e w1 ⟨rfl, n, rfl⟩
          have c0 : (w.drewN n).cell? ⟨d, 0, none⟩ = some (.slice (some ⟨g, o, none⟩) all.length cap) := (cells3 HV.out).1
          have HF := Lib.hid (HQ4.out n)
          go_wp2
          exact bodyPost_ret (v := .tuple #[.slice (some ⟨g, o + r * 4, none⟩) (all.length - r) (cap - r), .int .i64 0]) (by simp [results, Try.results18, go_sem]) rfl HF.out
end Go.Proofs.Ytneogelhdikcaaa.Nt

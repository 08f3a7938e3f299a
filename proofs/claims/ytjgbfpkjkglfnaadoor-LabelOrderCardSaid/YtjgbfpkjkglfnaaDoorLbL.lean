/- LabelOrder's walk: for every slice of pairs that came in, where the tables lie as the program's text lays them. -/
import Derived.Test.YtjgbfpkjkglfnaaDoorLbK
import Derived.Deep.RegionHeld3
namespace Go.Proofs.YtjgbfpkjkglfnaaDoor.Lb
open Go.RowKit Ch Jt
set_option linter.unusedSimpArgs false
set_option linter.unusedVariables false

/-- two sets' boxes, the sets -/
def CS (w : World) (p q : Nat) (a1 a2 : Option Addr) (c1 c2 : Nat) (gs : List FB) (V : World) : Prop := Below w.heap.size w V ∧ V.heap[p]? = some (.cells #[.slice a1 gs.length c1] 27 (0, 0)) ∧ V.heap[q]? = some (.cells #[.slice a2 gs.length c2] 27 (0, 0)) ∧ RdF (.slice a1 gs.length c1) gs V ∧ RdF (.slice a2 gs.length c2) gs V
theorem CS.go {w : World} {p q : Nat} {a1 a2 : Option Addr} {c1 c2 : Nat} {gs : List FB} {V V' : World} (h : CS w p q a1 a2 c1 c2 gs V) (hb : Below V.heap.size V V') : CS w p q a1 a2 c1 c2 gs V' :=
  ⟨h.1.trans (hb.mono h.1.size), (hb.block _ (Array.getElem?_eq_some_iff.1 h.2.1).1).trans h.2.1, (hb.block _ (Array.getElem?_eq_some_iff.1 h.2.2.1).1).trans h.2.2.1, h.2.2.2.1.go hb, h.2.2.2.2.go hb⟩
theorem CS.c {w : World} {p q : Nat} {a1 a2 : Option Addr} {c1 c2 : Nat} {gs : List FB} {V : World} (h : CS w p q a1 a2 c1 c2 gs V) : V.cell? ⟨p, 0, none⟩ = some (.slice a1 gs.length c1) ∧ V.cell? ⟨q, 0, none⟩ = some (.slice a2 gs.length c2) := ⟨cell_of_row _ _ 0 _ _ _ h.2.1, cell_of_row _ _ 0 _ _ _ h.2.2.1⟩
theorem CS.b {w : World} {p q : Nat} {a1 a2 : Option Addr} {c1 c2 : Nat} {gs : List FB} {V : World} (h : CS w p q a1 a2 c1 c2 gs V) : Below w.heap.size w V := h.1
theorem CS.r1 {w : World} {p q : Nat} {a1 a2 : Option Addr} {c1 c2 : Nat} {gs : List FB} {V : World} (h : CS w p q a1 a2 c1 c2 gs V) : RdF (.slice a1 gs.length c1) gs V := h.2.2.2.1
theorem CS.r2 {w : World} {p q : Nat} {a1 a2 : Option Addr} {c1 c2 : Nat} {gs : List FB} {V : World} (h : CS w p q a1 a2 c1 c2 gs V) : RdF (.slice a2 gs.length c2) gs V := h.2.2.2.2
def rvK (fs : List FB) (i : Nat) : List FB := (fs.drop i).reverse
theorem rvK_step {fs : List FB} {i : Nat} (hi : i < fs.length) : rvK fs i = rvK fs (i + 1) ++ [fs[i]] := by
  unfold rvK; rw [List.drop_eq_getElem_cons hi, List.reverse_cons]
theorem rvK_len {fs : List FB} {i : Nat} (hi : i ≤ fs.length) : (rvK fs i).length = fs.length - i := by unfold rvK; rw [List.length_reverse, List.length_drop]
set_option maxRecDepth 100000 in
set_option maxHeartbeats 8000000 in
theorem walkO (a : Option Addr) (len cap : Nat) (ts : List FB) (w : World) (hP : IsPrs w a len ts) (hE : Ev w) :
    Calls Tryd.prog 5 #[.slice a len cap] w fun e w' => e = .returned (.bool true) ∧ Below w.heap.size w w' := by
  obtain rfl := hP.1
  have HPC := Lib.hid (Pairs_c a cap ts w hP)
  have HE := Lib.hid hE
  clear hP hE
  have hf6 := prK_len ts (Nat.le_refl 6)
  have HSF : Hid (∀ x ∈ prK ts 6, x.1.size ≤ 20 ∧ x.2.size ≤ 30) := fun x hx => prK_short hx
  revert HPC hf6 HSF
  generalize prK ts 6 = fs
  intro HPC hf6 HSF
  obtain ⟨ip, hip, hpa, hpb, hpc⟩ := info_parts info2
  go_enter Tryd.func5, Tryd.ntmps5
  go_wp2_with fail
  refine HPC.out.mono ?_
  rintro e w1 ⟨vo, vw, rfl, ho, _, hb1⟩
  have HB1 := Lib.hid hb1
  have HR1 := Lib.hid ho.rd
  obtain ⟨ao, cpo, hv⟩ := own_lenF ho
  subst hv
  have HLO : Hid (∀ k, (Value.slice ao fs.length cpo).ownBlock = some k → w.heap.size ≤ k ∧ k < w1.heap.size) := ho.lt
  clear hb1 ho HPC
  go_wp2
  go_loopw [5, 6] (fun bv iv wr => ∃ (k : Nat) (z : Int), k ≤ fs.length ∧ iv = .int .i64 z ∧ Hid (z = (k : Int) - 1) ∧ Hid (OwF 52 w1.heap.size bv (rvK fs k) wr) ∧ Hid (Below w1.heap.size w1 wr)) (fun _ iv _ => (intOf iv + 1).toNat)
  case atStart => exact ⟨fs.length, _, by omega, rfl, Lib.hid rfl, Lib.hid (by unfold rvK; rw [List.drop_length]; exact World.ownsRow_nil _ _ _ _), Lib.hid (Below.refl _ _)⟩
  case round =>
    obtain ⟨k, z, hk, rfl, HZ, HO, HB⟩ := hrel
    obtain ⟨aob, cpb, hv⟩ := own_lenF HO.out
    subst hv
    have HRL := Lib.hid (rvK_len hk)
    rcases Nat.eq_zero_or_pos k with h0 | h0
    · subst h0
      obtain rfl : z = -1 := by have := HZ.out; omega
      have HRB := Lib.hid HO.out.rd
      have hre : rvK fs 0 = fs.reverse := rfl
      rw [hre, List.length_reverse] at HRB ⊢
      have HR2 := Lib.hid (HR1.out.go HB.out)
      have HB2 : Hid (Below w.heap.size w wr) := HB1.out.trans (HB.out.mono HB1.out.size)
      clear HO HB HRL hre HZ
      have HSR : Hid (∀ x ∈ fs.reverse, smallF x) := fun x hx => by have := HSF.out x (List.mem_reverse.1 hx); exact ⟨by omega, by omega⟩
      have HSS : Hid (∀ x ∈ fs, smallF x) := fun x hx => by have := HSF.out x hx; exact ⟨by omega, by omega⟩
      have HOF1 := Lib.hid (Of_c (.slice ao fs.length cpo) fs wr (HE.out.go HB2.out) HR2.out (by omega) HSS.out)
      go_wp2_with fail
      (with_reducible refine HOF1.out.mono ?_)
      intro e w3 h3
      obtain ⟨a1, c1, rfl, hr1, hb3⟩ := of_uni h3
      have HB3 : Hid (Below w.heap.size w w3) := HB2.out.trans (hb3.mono HB2.out.size)
      obtain ⟨W3, hW3, hk3, hbw3⟩ : ∃ W3, W3 = w3.alloc (.cells #[.slice a1 (ofA fs).length c1] 27) ∧ W3.heap[w3.heap.size]? = some (.cells #[.slice a1 (ofA fs).length c1] 27 (0, 0)) ∧ Below w3.heap.size w3 W3 := ⟨_, rfl, heap_alloc_new w3 _, (Below.refl _ _).alloc (Nat.le_refl _) _⟩
      have hl3 : w3.heap.size < W3.heap.size := (Array.getElem?_eq_some_iff.1 hk3).1
      have HBW3 : Hid (Below w.heap.size w W3) := HB3.out.trans (hbw3.mono HB3.out.size)
      have HOF2 := Lib.hid (Of_c (.slice aob fs.length cpb) fs.reverse W3 (HE.out.go HBW3.out) ((HRB.out.go hb3).go hbw3) (by rw [List.length_reverse]; omega) HSR.out)
      have HR1' := Lib.hid (hr1.go hbw3)
      have HW3 := Lib.hid hW3
      have HK3 := Lib.hid hk3
      clear h3 hr1 hb3 HRB HOF1 hW3 hk3 hbw3
      go_wp2_with fail
      rw [← HW3.out]
      clear HW3
      (with_reducible refine HOF2.out.mono ?_)
      intro e w4 h4
      obtain ⟨a2, c2, rfl, hr2, hb4⟩ := of_uni h4
      have HB4 : Hid (Below w.heap.size w w4) := HBW3.out.trans (hb4.mono HBW3.out.size)
      have HK4 : Hid (w4.heap[w3.heap.size]? = some (.cells #[.slice a1 (ofA fs).length c1] 27 (0, 0))) := (hb4.block _ hl3).trans HK3.out
      obtain ⟨er1, er2⟩ := of_rev (List.reverse_perm fs)
      rw [er1] at hr2
      rw [er1, er2]
      have HR2' := Lib.hid hr2
      have HR1'' := Lib.hid (HR1'.out.go hb4)
      have hgl := ofA_len fs
      have HGS : Hid (∀ x ∈ ofA fs, shortF x) := fun x hx => by have := HSF.out x (ofA_mem hx).1; exact ⟨by omega, by omega⟩
      have HGV : Hid (∀ x ∈ ofA fs, vldB x.2.data.toList = true) := fun x hx => (bad_vld (ofA_mem hx).2).1
      clear h4 hr2 hb4 HR1' er1 er2 HOF2 HK3
      revert HK4 HR2' HR1'' hgl HGS HGV
      generalize ofA fs = gs
      generalize ofZ fs = z
      intro HK4 HR2 HR1 hgl HGS HGV
      obtain ⟨W4, hW4, hk4, hbw4⟩ : ∃ W4, W4 = w4.alloc (.cells #[.slice a2 gs.length c2] 27) ∧ W4.heap[w4.heap.size]? = some (.cells #[.slice a2 gs.length c2] 27 (0, 0)) ∧ Below w4.heap.size w4 W4 := ⟨_, rfl, heap_alloc_new w4 _, (Below.refl _ _).alloc (Nat.le_refl _) _⟩
      have HW4 := Lib.hid hW4
      have HKT := Lib.hid hk4
      have hls : w3.heap.size < w4.heap.size := (Array.getElem?_eq_some_iff.1 HK4.out).1
      have HKS : Hid (W4.heap[w3.heap.size]? = some (.cells #[.slice a1 gs.length c1] 27 (0, 0))) := (hbw4.block _ hls).trans HK4.out
      have HBW4 : Hid (Below w.heap.size w W4) := HB4.out.trans (hbw4.mono HB4.out.size)
      have HS1 := Lib.hid (HR1.out.go hbw4)
      have HT1 := Lib.hid (HR2.out.go hbw4)
      clear hW4 hk4 hbw4 HR1 HR2 HK4
      have HCD : Hid (CS w w3.heap.size w4.heap.size a1 a2 c1 c2 gs W4.drew) := ⟨HBW4.out.drew, HKS.out, HKT.out, HS1.out.go ⟨rfl, rfl, rfl, Nat.le_refl _, fun _ _ => rfl⟩, HT1.out.go ⟨rfl, rfl, rfl, Nat.le_refl _, fun _ _ => rfl⟩⟩
      have hq0 : decide (gs = gs) = true := decide_eq_true rfl
      have HSM := Lib.hid (fun W h1 h2 => Same_c a1 a2 c1 c2 gs gs W h1 h2 (by omega) (by omega))
      rw [hq0] at HSM
      have HH1 := Lib.hid (fun W h1 h2 => Hash_c a1 c1 gs W h1 h2 (by omega) HGS.out HGV.out)
      have HH2 := Lib.hid (fun W h1 h2 => Hash_c a2 c2 gs W h1 h2 (by omega) HGS.out HGV.out)
      have HAW := Lib.hid (fun W h => awake_c W h)
      clear hq0 HKS HKT HS1 HT1 HBW4 HB4 HBW3 HB3 HB2
      generalize hshL (txtL gs) = hh at HH1 HH2
      go_wp2_with fail
      rw [← HW4.out]
      clear HW4
      obtain ⟨d0, d1⟩ := HCD.out.c
      go_region_held3 (fun V => V.cell? ⟨w3.heap.size, 0, none⟩ = some (.slice a1 gs.length c1) ∧ V.cell? ⟨w4.heap.size, 0, none⟩ = some (.slice a2 gs.length c2))
        (first | (with_reducible exact HCD.out.c) | (with_reducible exact HC5.out.c) | (with_reducible exact HC6.out.c) | (with_reducible exact HC7.out.c) | (with_reducible exact HC8.out.c))
        (first
          | (go_at_call 22; (with_reducible refine (HSM.out W4.drew HCD.out.r1 HCD.out.r2).mono ?_); rintro e w5 ⟨rfl, hb5⟩; have HC5 := Lib.hid (HCD.out.go hb5); obtain ⟨e0, e1⟩ := HC5.out.c; clear hb5)
          | (go_at_call 14; (with_reducible refine (HH1.out w5 (HE.out.go HC5.out.b) HC5.out.r1).mono ?_); rintro e w6 ⟨rfl, hb6⟩; have HC6 := Lib.hid (HC5.out.go hb6); obtain ⟨f0, f1⟩ := HC6.out.c; clear hb6)
          | (go_at_call 14; (with_reducible refine (HH2.out w6 (HE.out.go HC6.out.b) HC6.out.r2).mono ?_); rintro e w7 ⟨rfl, hb7⟩; have HC7 := Lib.hid (HC6.out.go hb7); clear hb7)
          | (go_at_call 20; (with_reducible refine (HAW.out w7 (HE.out.go HC7.out.b)).mono ?_); rintro e w8 ⟨rfl, hb8⟩; have HC8 := Lib.hid (HC7.out.go hb8); clear hb8))
      all_goals
        clear d0 d1 e0 e1 f0 f1
        go_wp2
        go_ret
        exact ⟨rfl, HC8.out.b⟩
    · obtain ⟨m, rfl⟩ : ∃ m, k = m + 1 := ⟨k - 1, by omega⟩
      obtain rfl : z = (m : Int) := by have := HZ.out; omega
      have hlt : m < fs.length := by omega
      obtain ⟨g, off, rfl, hg, hat⟩ := rdf_at2 (HR1.out.go HB.out) (by omega)
      obtain ⟨p0, p1⟩ := hat m hlt
      have HST := Lib.hid (rvK_step hlt)
      have hj0 : (0 : Int) ≤ (m : Int) := by omega
      have hjl : (m : Int) < (fs.length : Int) := by omega
      clear hat HZ
      obtain ⟨⟨x, y⟩, hxy⟩ : ∃ f : FB, fs[m] = f := ⟨_, rfl⟩
      rw [hxy] at p0 p1 HST
      simp only at p0 p1
      clear hxy
      obtain ⟨W2, hW2, hk2, hb2⟩ : ∃ W2, W2 = wr.alloc (.cells #[.string x, .string y] 52) ∧ W2.heap[wr.heap.size]? = some (.cells #[.string x, .string y] 52 (0, 0)) ∧ Below wr.heap.size wr W2 := ⟨_, rfl, heap_alloc_new wr _, (Below.refl _ _).alloc (Nat.le_refl _) _⟩
      have HW2 := Lib.hid hW2
      have HB2 : Hid (Below w1.heap.size w1 W2) := HB.out.trans (hb2.mono HB.out.size)
      have IO := Lib.hid (HO.out.go hb2)
      have DC := Lib.hid (two_cell hk2)
      have D3 : Hid ((rvK fs (m + 1)).length + 1 ≤ maxLen) := by show _ ≤ _; unfold maxLen; have := HRL.out; omega
      have D4 : Hid (((rvK fs (m + 1)).length + 1) * 32 ≤ 140737488355328) := by show _ ≤ _; have := HRL.out; omega
      have E1 : Hid (w1.heap.size ≤ W2.heap.size) := HB2.out.size
      clear hW2 hk2 hb2
      go_wp2_with (at_builtin; rw [← HW2.out]; refine wpList_append_own _ rfl _ _ 23 rfl w1.heap.size 52 ip _ 2 32 Tryd.underlying23 hip hpa hpb hpc rfl (by decide) _ _ _ rfl IO.out ⟨wr.heap.size, 0, none⟩ 1 1 [.string x, .string y] rfl rfl DC.out two_ok D3.out D4.out E1.out ?_)
      intro v1 V1 hown1 hgrow1 _
      have HBV : Hid (Below w1.heap.size w1 V1) := HB2.out.grown hgrow1 HB2.out.size (fun k hk => (IO.out.lt k hk).1)
      have JO : Hid (OwF 52 w1.heap.size v1 (rvK fs m) V1) := by
        show OwF _ _ _ _ _
        rw [HST.out]; unfold OwF; rw [fC_snoc, List.length_append]
        exact hown1
      clear hown1 hgrow1
      go_wp2
      go_roundw
      case rel => exact ⟨m, _, by omega, rfl, Lib.hid rfl, JO, HBV⟩
      case measure => first | (simp [intOf]; done) | (simp [intOf]; omega)
end Go.Proofs.YtjgbfpkjkglfnaaDoor.Lb

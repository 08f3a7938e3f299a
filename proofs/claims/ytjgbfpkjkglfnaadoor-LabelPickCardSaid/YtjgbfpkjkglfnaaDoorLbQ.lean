/- The contract of package label's Pick: for few pairs that rise by their names, none twice, and every row of names. -/
import Derived.Test.YtjgbfpkjkglfnaaDoorLbO
namespace Go.Proofs.YtjgbfpkjkglfnaaDoor.Lb
open Go.RowKit Ch Jt
set_option linter.unusedSimpArgs false
set_option linter.unusedVariables false

/-- texts that can be read -/
def RdS (v : Value) (ss : List ByteArray) (w : World) : Prop := ∃ ao cap, v = .slice ao ss.length cap ∧ (0 < ss.length → ∃ g off, ao = some ⟨g, off, none⟩ ∧ g < w.heap.size ∧ ∀ i (hi : i < ss.length), w.cell? ⟨g, off + i, none⟩ = some (.string ss[i]))
theorem RdS.go {v : Value} {ss : List ByteArray} {w W : World} (h : RdS v ss w) (hb : Below w.heap.size w W) : RdS v ss W := by
  obtain ⟨ao, cap, rfl, h⟩ := h
  refine ⟨ao, cap, rfl, fun h0 => ?_⟩
  obtain ⟨g, off, rfl, hg, hc⟩ := h h0
  exact ⟨g, off, rfl, Nat.lt_of_lt_of_le hg hb.size, fun i hi => (hb.cell (p := ⟨g, off + i, none⟩) hg).trans (hc i hi)⟩
theorem rds_at {ao : Option Addr} {cap n : Nat} {ss : List ByteArray} {w : World} (h : RdS (.slice ao n cap) ss w) (h0 : 0 < ss.length) : ∃ g off, ao = some ⟨g, off, none⟩ ∧ g < w.heap.size ∧ ∀ i (hi : i < ss.length), w.cell? ⟨g, off + i, none⟩ = some (.string ss[i]) := by
  obtain ⟨ao', cp, e, hh⟩ := h
  injection e with ea eb ec
  subst ea
  exact hh h0
def inN (L : List ByteArray) (s : ByteArray) : Bool := L.any fun y => decide (y = s)
theorem inN_snoc (L : List ByteArray) (y s : ByteArray) : inN (L ++ [y]) s = (inN L s || decide (y = s)) := by unfold inN; rw [List.any_append]; simp
/-- which pairs have one of these names -/
def pkV (gs : List FB) (L : List ByteArray) : List Value := gs.map fun x => .bool (inN L x.1)
theorem pk_len (gs : List FB) (L : List ByteArray) : (pkV gs L).length = gs.length := by unfold pkV; simp
theorem pk_at {gs : List FB} {L : List ByteArray} {k : Nat} (hk : k < gs.length) : (pkV gs L)[k]? = some (.bool (inN L gs[k].1)) := by unfold pkV; simp [hk]
theorem pk_nil (gs : List FB) : pkV gs [] = List.replicate gs.length (.bool false) := by
  unfold pkV
  apply List.ext_getElem
  · simp
  · intro i h1 h2; simp [inN]
theorem pk_no {gs : List FB} {L : List ByteArray} {s : ByteArray} (h : ∀ x ∈ gs, x.1 ≠ s) : pkV gs (L ++ [s]) = pkV gs L := by
  unfold pkV
  apply List.map_congr_left
  intro x hx
  rw [inN_snoc, decide_eq_false (fun e => h x hx e.symm), Bool.or_false]
theorem pk_yes {gs : List FB} {L : List ByteArray} {s : ByteArray} {i : Nat} (ho : Onc gs) (hi : i < gs.length) (h : gs[i].1 = s) : pkV gs (L ++ [s]) = (pkV gs L).set i (.bool true) := by
  apply List.ext_getElem
  · simp [pkV]
  · intro k h1 h2
    have hk : k < gs.length := by simpa [pkV] using h1
    rw [List.getElem_set]
    by_cases hik : i = k
    · subst hik
      rw [if_pos rfl]
      simp [pkV, inN_snoc, h]
    · rw [if_neg hik]
      have hne : gs[k].1 ≠ s := fun e => by
        have he := onc_inj ho (List.getElem_mem hk) (List.getElem_mem hi) (e.trans h.symm)
        unfold Onc at ho
        rw [List.nodup_iff_pairwise_ne, List.pairwise_map, List.pairwise_iff_getElem] at ho
        rcases Nat.lt_or_gt_of_ne hik with g | g
        · exact ho i k hi hk g (h.trans e.symm)
        · exact ho k i hk hi g (e.trans h.symm)
      have hne2 : ¬ s = gs[k].1 := fun e => hne e.symm
      simp [pkV, inN_snoc, hne2]
theorem made_b (n : Nat) : (madeCells #[Value.bool false] n).toList = List.replicate n (.bool false) := by
  unfold madeCells
  apply List.ext_getElem
  · simp
  · intro i h1 h2
    have hm : i % 1 = 0 := Nat.mod_one i
    simp [hm]
theorem pck_snoc {gs : List FB} {L : List ByteArray} {k : Nat} (hk : k < gs.length) : (gs.take (k + 1)).filter (fun x => inN L x.1) = (gs.take k).filter (fun x => inN L x.1) ++ (if inN L gs[k].1 = true then [gs[k]] else []) := by
  rw [List.take_succ_eq_append_getElem hk, List.filter_append]
  by_cases h : inN L gs[k].1 = true
  · simp [h]
  · simp [h]
theorem own_pl {T : TypeId} {B k n m : Nat} {ao : Option Addr} {cap : Nat} {xs : List Value} {w : World} (h : w.ownsRow B T k (.slice ao m cap) n xs) : Pl ao := by
  rcases h.2 with ⟨h, _⟩ | ⟨g, cap', cur, h, _⟩
  · injection h with h; exact .inl h
  · injection h with h; exact .inr ⟨g, h⟩
theorem OwF.pl {T : TypeId} {B m : Nat} {ao : Option Addr} {cap : Nat} {fs : List FB} {w : World} (h : OwF T B (.slice ao m cap) fs w) : Pl ao := own_pl h
theorem infoBo : (Tryd.prog.info? 4).map (fun i => (i.zero, i.size, i.bytes)) = some (some (.bool false), 1, 1) := by kernel_rfl
/-- what lies while pairs are picked: the set's box, the answer's, the row of which are picked -/
def PK (w : World) (gs : List FB) (ao : Option Addr) (cap : Nat) (L : List ByteArray) (V : World) : Prop := Below w.heap.size w V ∧ V.heap[w.heap.size]? = some (.cells #[.slice ao gs.length cap] 27 (0, 0)) ∧ V.heap[w.heap.size + 1]? = some (.cells #[.slice none 0 0] 27 (0, 0)) ∧ V.heap[w.heap.size + 1 + 1]? = some (.cells (pkV gs L).toArray 4 (0, 0))
theorem PK.go {w : World} {gs : List FB} {ao : Option Addr} {cap : Nat} {L : List ByteArray} {V V' : World} (h : PK w gs ao cap L V) (hb : Below V.heap.size V V') : PK w gs ao cap L V' :=
  ⟨h.1.trans (hb.mono h.1.size), (hb.block _ (Array.getElem?_eq_some_iff.1 h.2.1).1).trans h.2.1, (hb.block _ (Array.getElem?_eq_some_iff.1 h.2.2.1).1).trans h.2.2.1, (hb.block _ (Array.getElem?_eq_some_iff.1 h.2.2.2).1).trans h.2.2.2⟩
theorem PK.b {w : World} {gs : List FB} {ao : Option Addr} {cap : Nat} {L : List ByteArray} {V : World} (h : PK w gs ao cap L V) : Below w.heap.size w V := h.1
theorem PK.s {w : World} {gs : List FB} {ao : Option Addr} {cap : Nat} {L : List ByteArray} {V : World} (h : PK w gs ao cap L V) : V.cell? ⟨w.heap.size, 0, none⟩ = some (.slice ao gs.length cap) := cell_of_row _ _ 0 _ _ _ h.2.1
theorem PK.p {w : World} {gs : List FB} {ao : Option Addr} {cap : Nat} {L : List ByteArray} {V : World} (h : PK w gs ao cap L V) {i : Nat} (hi : i < gs.length) : V.cell? ⟨w.heap.size + 1 + 1, i, none⟩ = some (.bool (inN L gs[i].1)) ∧ V.frozen? ⟨w.heap.size + 1 + 1, i, none⟩ = false := by
  refine ⟨?_, frz h.2.2.2 i⟩
  rw [cell_of_row _ _ i _ _ _ h.2.2.2, List.getElem?_toArray]
  exact pk_at hi
theorem PK.set {w : World} {gs : List FB} {ao : Option Addr} {cap : Nat} {L : List ByteArray} {s : ByteArray} {V : World} (h : PK w gs ao cap L V) {i : Nat} (ho : Onc gs) (hi : i < gs.length) (he : gs[i].1 = s) : PK w gs ao cap (L ++ [s]) (V.setCell ⟨w.heap.size + 1 + 1, i, none⟩ (.bool true)) := by
  have e := setCell_eq_setRow V (w.heap.size + 1 + 1) i _ _ _ (.bool true) h.2.2.2
  rw [e]
  refine ⟨h.1.trans ⟨rfl, rfl, rfl, by simp [World.setRow], fun k hk => setRow_other V _ k _ (by omega)⟩, (setRow_other V _ _ _ (by omega)).trans h.2.1, (setRow_other V _ _ _ (by omega)).trans h.2.2.1, ?_⟩
  rw [setRow_heap V _ _ _ _ _ h.2.2.2, pk_yes ho hi he]
  simp
theorem PK.new {w w2 : World} {gs : List FB} {ao : Option Addr} {cap : Nat} (hown : w2.ownsRow w.heap.size 4 1 (.slice (some ⟨w.heap.size + 1 + 1, 0, none⟩) gs.length gs.length) gs.length (madeCells #[.bool false] gs.length).toList) (hg : ((w.alloc (.cells #[.slice ao gs.length cap] 27)).alloc (.cells #[.slice none 0 0] 27)).grownBy w2 none) : PK w gs ao cap [] w2 := by
  have hb0 := (Below.refl w.heap.size w).alloc (Nat.le_refl _) (.cells #[.slice ao gs.length cap] 27)
  have hb1 := hb0.alloc hb0.size (.cells #[.slice none 0 0] 27)
  have z : ((w.alloc (.cells #[.slice ao gs.length cap] 27)).alloc (.cells #[.slice none 0 0] 27)).heap.size = w.heap.size + 1 + 1 := by simp
  refine ⟨hb1.grown hg hb1.size (fun j hj => by cases hj), ?_, ?_, ?_⟩
  · rw [hg.block _ (by rw [z]; omega) (by simp)]
    have hb := (Below.refl (w.heap.size + 1) (w.alloc (.cells #[.slice ao gs.length cap] 27))).alloc (by simp) (.cells #[.slice none 0 0] 27)
    exact (hb.block _ (by omega)).trans (heap_alloc_new w _)
  · rw [hg.block _ (by rw [z]; omega) (by simp)]
    have := heap_alloc_new (w.alloc (.cells #[.slice ao gs.length cap] 27)) (.cells #[.slice none 0 0] 27)
    simpa using this
  · rcases hown.2 with ⟨h, _⟩ | ⟨g, cp, cur, hv, _, hgh, _, _, hz, htk⟩
    · cases h
    · injection hv with h1 h2 h3
      injection h1 with h1
      injection h1 with h1
      subst h1 h3
      rw [made_b, ← pk_nil, Nat.mul_one] at htk
      have hl : cur.toList = pkV gs [] := by rw [← htk, List.take_of_length_le (by rw [Array.length_toList, hz]; omega)]
      rw [hgh, ← hl]
/-- the pairs of these names -/
def pckL (gs : List FB) (L : List ByteArray) : List FB := gs.filter fun x => inN L x.1
set_option maxRecDepth 100000 in
set_option maxHeartbeats 8000000 in
theorem Pick_c (ao an : Option Addr) (cap cpn : Nat) (gs : List FB) (ss : List ByteArray) (w : World) (hR : RdF (.slice ao gs.length cap) gs w) (hS : RdS (.slice an ss.length cpn) ss w) (ha : Asc gs) (ho : Onc gs) (hm : gs.length ≤ 1000) (hsm : ss.length ≤ 9223372036854775807) :
    Calls Tryd.prog 21 #[.agg #[.slice ao gs.length cap], .slice an ss.length cpn] w fun e w' => ∃ a2 c2, Pl a2 ∧ e = .returned (.agg #[.slice a2 (pckL gs ss).length c2]) ∧ RdF (.slice a2 (pckL gs ss).length c2) (pckL gs ss) w' ∧ Below w.heap.size w w' := by
  have HR := Lib.hid hR
  have HS := Lib.hid hS
  have HA := Lib.hid ha
  have HO := Lib.hid ho
  clear hR hS ha ho
  obtain ⟨i0, hi, hz0, hz1, hz2⟩ := info_parts infoBo
  obtain ⟨ip, hip, hpa, hpb, hpc⟩ := info_parts info2
  go_enter Tryd.func21, Tryd.ntmps21
  go_wp2_with (at_make; refine wpList_make_full _ rfl _ _ 74 rfl w.heap.size 4 i0 _ 1 Tryd.underlying74 hi hz0 hz1 _ _ _ _ gs.length rfl rfl rfl rfl (by rw [hz2]; omega) (by unfold maxLen; omega) (by simp; omega) ?_)
  intro w2 hown hg
  have HPK : Hid (PK w gs ao cap [] w2) := PK.new hown hg
  clear hown hg
  go_wp2
  go_loopw [19] (fun v wr => ∃ j : Nat, j ≤ ss.length ∧ v = .int .i64 j ∧ Hid (PK w gs ao cap (ss.take j) wr)) (fun v _ => ss.length - (intOf v).toNat)
  case atStart => exact ⟨0, by omega, rfl, HPK⟩
  case round =>
    clear HPK
    obtain ⟨j, hj, rfl, HPK⟩ := hrel
    by_cases hlt : j < ss.length
    · obtain ⟨g, off, rfl, hg, hat⟩ := rds_at (HS.out.go HPK.out.b) (by omega)
      have p0 := hat j hlt
      have HST : Hid (ss.take (j + 1) = ss.take j ++ [ss[j]]) := List.take_succ_eq_append_getElem hlt
      have hj0 : (0 : Int) ≤ (j : Int) := by omega
      have hjl : (j : Int) < (ss.length : Int) := by omega
      have d0 := HPK.out.s
      have HFC := Lib.hid (fun s => find_c ao cap gs s wr (HR.out.go HPK.out.b) HA.out hm)
      clear hat
      revert p0 HST
      generalize ss[j] = s
      intro p0 HST
      go_wp2_with fail
      refine (HFC.out s).mono ?_
      rintro e w3 ⟨i, b, rfl, hy, hn, hb⟩
      have HP3 := Lib.hid (HPK.out.go hb)
      clear HPK HFC p0 d0 hb
      cases b with
      | false =>
        have HP4 : Hid (PK w gs ao cap (ss.take (j + 1)) w3) := by
          show PK _ _ _ _ _ _
          have := HP3.out
          rw [HST.out]
          unfold PK at this ⊢
          rw [pk_no (hn rfl)]; exact this
        clear hy hn HP3
        go_wp2
        go_roundw
        case rel => exact ⟨j + 1, by omega, by go_num, HP4⟩
        case measure => simp [intOf]; omega
      | true =>
        obtain ⟨hi2, he⟩ := hy rfl
        have HP4 : Hid (PK w gs ao cap (ss.take (j + 1)) (w3.setCell ⟨w.heap.size + 1 + 1, i, none⟩ (.bool true))) := by
          show PK _ _ _ _ _ _
          rw [HST.out]
          exact HP3.out.set HO.out hi2 he
        obtain ⟨q0, z0⟩ := HP3.out.p hi2
        have hi0 : (0 : Int) ≤ (i : Int) := by omega
        have hil : (i : Int) < (gs.length : Int) := by omega
        clear hy hn HP3 he
        go_wp2
        go_roundw
        case rel => exact ⟨j + 1, by omega, by go_num, HP4⟩
        case measure => simp [intOf]; omega
    · have hte : ss.take j = ss := List.take_of_length_le (by omega)
      rw [hte] at HPK
      have d0 := HPK.out.s
      clear hte
      go_wp2
      clear d0
      have hlp : w.heap.size + 1 + 1 < wr.heap.size := (Array.getElem?_eq_some_iff.1 HPK.out.2.2.2).1
      go_loopw [10, 37] (fun pv v V => ∃ k : Nat, k ≤ gs.length ∧ v = .int .i64 k ∧ Hid (OwF 52 wr.heap.size pv (pckL (gs.take k) ss) V) ∧ Hid (Below wr.heap.size wr V)) (fun _ v _ => gs.length - (intOf v).toNat)
      case atStart => exact ⟨0, by omega, rfl, Lib.hid (World.ownsRow_nil _ _ _ _), Lib.hid (Below.refl _ _)⟩
      case round =>
        rename World => V
        obtain ⟨k, hk, rfl, HOW, HB⟩ := hrel
        obtain ⟨aop, cpp, hv⟩ := own_lenF HOW.out
        subst hv
        have HPV := Lib.hid (HPK.out.go HB.out)
        have hbz := HB.out.size
        by_cases hkt : k < gs.length
        · obtain ⟨g, off, rfl, hg, hat⟩ := rdf_at2 (HR.out.go HPV.out.b) (by omega)
          obtain ⟨p0, p1⟩ := hat k hkt
          obtain ⟨q0, _⟩ := HPV.out.p hkt
          have HST : Hid (pckL (gs.take (k + 1)) ss = pckL (gs.take k) ss ++ (if inN ss gs[k].1 = true then [gs[k]] else [])) := pck_snoc hkt
          have hk0 : (0 : Int) ≤ (k : Int) := by omega
          have hkl : (k : Int) < (gs.length : Int) := by omega
          have hgn : g ≠ V.heap.size := by omega
          have hpn : w.heap.size + 1 + 1 ≠ V.heap.size := by omega
          have hpl : w.heap.size + 1 + 1 < V.heap.size := by omega
          have HPL : Hid ((pckL (gs.take k) ss).length ≤ k) := by
            show _ ≤ _
            have h1 := List.length_filter_le (fun x : FB => inN ss x.1) (gs.take k)
            rw [List.length_take] at h1
            unfold pckL; omega
          clear hat
          obtain ⟨⟨x, y⟩, hxy⟩ : ∃ f : FB, gs[k] = f := ⟨_, rfl⟩
          rw [hxy] at p0 p1 q0 HST
          simp only at p0 p1 q0 HST
          clear hxy
          by_cases hin : inN ss x = true
          · rw [hin] at q0 HST
            rw [if_pos rfl] at HST
            revert HST HPL
            generalize pckL (gs.take k) ss = fs1 at HOW ⊢
            intro HPL HST
            obtain ⟨W1, hW1, hk1, hk0', hb1⟩ := new_two V (.string x) (.string y) 52 52
            have HW1 := Lib.hid hW1
            have HB1 : Hid (Below wr.heap.size wr W1) := HB.out.trans (hb1.mono HB.out.size)
            have IO := Lib.hid (HOW.out.go hb1)
            have DC := Lib.hid (two_cell hk1)
            have D3 : Hid (fs1.length + 1 ≤ maxLen) := by show _ ≤ _; unfold maxLen; have := HPL.out; omega
            have D4 : Hid ((fs1.length + 1) * 32 ≤ 140737488355328) := by show _ ≤ _; have := HPL.out; omega
            have E1 : Hid (wr.heap.size ≤ W1.heap.size) := HB1.out.size
            clear hW1 hk1 hk0' hb1
            go_wp2_with (at_builtin; rw [← HW1.out]; refine wpList_append_own _ rfl _ _ 23 rfl wr.heap.size 52 ip _ 2 32 Tryd.underlying23 hip hpa hpb hpc rfl (by decide) _ _ _ rfl IO.out ⟨V.heap.size + 1, 0, none⟩ 1 1 [.string x, .string y] rfl rfl DC.out two_ok D3.out D4.out E1.out ?_)
            intro v1 V1 hown1 hgrow1 _
            have HBV : Hid (Below wr.heap.size wr V1) := HB1.out.grown hgrow1 HB1.out.size (fun k hk => (IO.out.lt k hk).1)
            have JO : Hid (OwF 52 wr.heap.size v1 (pckL (gs.take (k + 1)) ss) V1) := by
              show OwF _ _ _ _ _
              rw [HST.out]; unfold OwF; rw [fC_snoc, List.length_append]
              exact hown1
            clear hown1 hgrow1
            go_wp2
            go_roundw
            case rel => exact ⟨k + 1, by omega, by go_num, JO, HBV⟩
            case measure => simp [intOf]; omega
          · have hin2 : inN ss x = false := by simpa using hin
            rw [hin2] at q0 HST
            rw [if_neg (by decide), List.append_nil] at HST
            revert HST
            generalize pckL (gs.take k) ss = fs1 at HOW ⊢
            intro HST
            have hba : Below V.heap.size V (V.alloc (.cells #[.string x, .string y] 52)) := (Below.refl _ _).alloc (Nat.le_refl _) _
            have JO : Hid (OwF 52 wr.heap.size (.slice aop fs1.length cpp) (pckL (gs.take (k + 1)) ss) (V.alloc (.cells #[.string x, .string y] 52))) := by
              show OwF _ _ _ _ _
              rw [HST.out]; exact HOW.out.go hba
            have HBV : Hid (Below wr.heap.size wr (V.alloc (.cells #[.string x, .string y] 52))) := HB.out.trans (hba.mono HB.out.size)
            clear hba hin hin2
            go_wp2
            go_roundw
            case rel => exact ⟨k + 1, by omega, by go_num, JO, HBV⟩
            case measure => simp [intOf]; omega
        · have hte : gs.take k = gs := List.take_of_length_le (by omega)
          rw [hte] at HOW ⊢
          have HRD := Lib.hid HOW.out.rd
          have hrb : V.heap[w.heap.size + 1]? = some (.cells #[.slice none 0 0] 27 (0, 0)) := HPV.out.2.2.1
          clear hte
          obtain ⟨fs1, hf⟩ : ∃ fs1, fs1 = pckL gs ss := ⟨_, rfl⟩
          rw [← hf] at HOW HRD ⊢
          have HF := Lib.hid hf
          clear hf
          have d0 := cell_of_row _ _ 0 _ _ _ hrb
          have z0 := frz hrb 0
          have e0 := cell_of_row _ _ 0 _ _ _ (set1 (.slice aop fs1.length cpp) hrb)
          have HBS : Hid (Below w.heap.size w (V.setCell ⟨w.heap.size + 1, 0, none⟩ (.slice aop fs1.length cpp))) := HPV.out.b.setCell (p := ⟨w.heap.size + 1, 0, none⟩) (Nat.le_succ _) _
          have HRS : Hid (RdF (.slice aop fs1.length cpp) fs1 (V.setCell ⟨w.heap.size + 1, 0, none⟩ (.slice aop fs1.length cpp))) := by
            refine ⟨aop, cpp, rfl, fun h0 => ?_⟩
            obtain ⟨g, off, e, hg, hat⟩ := rdf_at2 HRD.out h0
            obtain ⟨g2, cap2, cur2, hv2, hB2, _⟩ : ∃ g2 cap2 cur2, Value.slice aop fs1.length cpp = .slice (some ⟨g2, 0, none⟩) fs1.length cap2 ∧ wr.heap.size ≤ g2 ∧ cur2 = (0 : Nat) := by
              rcases HOW.out.2 with ⟨h, hz⟩ | ⟨g2, cap2, cur2, hv2, hB2, _⟩
              · omega
              · exact ⟨g2, cap2, 0, hv2, hB2, rfl⟩
            injection hv2 with h1 h2 h3
            have hgg : g = g2 := by rw [h1] at e; injection e with e; injection e with e; exact e.symm
            have hne : g ≠ w.heap.size + 1 := by omega
            refine ⟨g, off, e, by simpa using hg, fun i hi => ?_⟩
            obtain ⟨a0, a1⟩ := hat i hi
            exact ⟨by rw [World.cell?_setCell_other _ _ _ _ (by intro h; injection h with h; exact hne h.symm)]; exact a0, by rw [World.cell?_setCell_other _ _ _ _ (by intro h; injection h with h; exact hne h.symm)]; exact a1⟩
          clear hrb
          go_wp2
          (with_reducible refine bodyPost_ret (v := .agg #[.slice aop fs1.length cpp]) (by simp [results, Tryd.results21, go_sem, e0]) rfl ⟨aop, cpp, HOW.out.pl, by rw [← HF.out], by rw [← HF.out]; exact HRS.out, HBS.out⟩)
end Go.Proofs.YtjgbfpkjkglfnaaDoor.Lb

/- The contract of the document's unit (what stands at a place in quotes): for every text of at most a thousand bytes, every place in it. -/
import Derived.Test.YtpgllcdcpdeicaaGreatDoorJtRef1
namespace Go.Proofs.YtpgllcdcpdeicaaGreatDoor.Jt
open Go.RowKit
set_option linter.unusedSimpArgs false
set_option linter.unusedVariables false

def tupS (v : Value) (n : Int) : Ending := .returned (.tuple #[v, .int .i64 n])
/-- what is answered of what stands at a place -/
def UnP (r : List UInt8 × Nat) (w : World) (e : Ending) (w' : World) : Prop :=
  (if r.2 = 0 then e = tupS (.slice none 0 0) 0 else ∃ g off cap, e = tupS (.slice (some ⟨g, off, none⟩) r.1.length cap) (r.2 : Nat) ∧ g < w'.heap.size ∧ Ut.Bts w' g off (nl r.1)) ∧ Below w.heap.size w w'
theorem unp_no {r : List UInt8 × Nat} {w : World} {e : Ending} {w' : World} (h : r.2 = 0) (g : e = tupS (.slice none 0 0) 0 ∧ Below w.heap.size w w') : UnP r w e w' := by unfold UnP; rw [if_pos h]; exact g
theorem unp_yes {r : List UInt8 × Nat} {w : World} {e : Ending} {w' : World} (n : Nat) (hn : r.2 = n) (h : n ≠ 0) (b off len cap : Nat) (hl : len = r.1.length) (he : e = tupS (.slice (some ⟨b, off, none⟩) len cap) (n : Nat)) (hb : b < w'.heap.size) (hB : Ut.Bts w' b off (nl r.1)) (hw : Below w.heap.size w w') : UnP r w e w' := by
  unfold UnP; rw [hn, if_neg h]; exact ⟨⟨b, off, cap, by rw [← hl]; exact he, hb, hB⟩, hw⟩
theorem sl_bts {w : World} {b : Nat} {zs : List Int} (h : Ut.Sl w (some ⟨b, 0, none⟩) zs) (hz : zs ≠ []) : b < w.heap.size ∧ Ut.Bts w b 0 zs := by
  obtain ⟨b', off, he, hl, hB⟩ := h hz
  cases he
  exact ⟨hl, hB⟩
theorem nums_cut (s : ByteArray) (a b : Nat) : Ut.nums (s.extract a b) = nl (cutL s.data.toList a b) := by rw [nums_nl, extract_cut]
theorem cut_all {l : List UInt8} {a : Nat} : cutL l a l.length = l.drop a := by unfold cutL; rw [List.take_of_length_le (by rw [List.length_drop]; omega)]
set_option maxRecDepth 100000 in
set_option maxHeartbeats 4000000 in
theorem unitr_low (s : ByteArray) (k : Nat) (w : World) (hs : s.size ≤ 1000) (hk : k < s.size) (h : at0 s.data.toList k < 32 ∨ at0 s.data.toList k = 34) : Calls Tryz.prog 44 #[.string s, .int .i64 (k : Int)] w (UnP (unitL s.data.toList k) w) := by
  have HU : Hid (unitL s.data.toList k = ([], 0)) := by show unitL s.data.toList k = _; unfold unitL; rw [if_pos h]
  have hbi := byte_i s k hk
  have hk' : (k : Int) < (s.size : Int) := by omega
  by_cases h1 : at0 s.data.toList k < 32
  · have h1' : (s[k].toNat : Int) < 32 := by rw [hbi]; exact h1
    have hd : decide ((s[k].toNat : Int) < 32) = true := by simpa using h1'
    clear h hbi h1
    go_enter Tryz.func44, Tryz.ntmps44
    go_wp2
    go_ret2
    exact unp_no (by rw [HU.out]) ⟨rfl, Below.refl _ _⟩
  · have h1' : ¬ (s[k].toNat : Int) < 32 := by rw [hbi]; exact h1
    have hd : decide ((s[k].toNat : Int) < 32) = false := by simpa using h1'
    have q : ((s[k].toNat : Int) == 34) = true := by rw [byte_q s k hk]; rcases h with g | g; omega; exact decide_eq_true g
    clear h hbi h1
    go_enter Tryz.func44, Tryz.ntmps44
    go_wp2
    go_ret2
    exact unp_no (by rw [HU.out]) ⟨rfl, Below.refl _ _⟩
set_option maxRecDepth 100000 in
set_option maxHeartbeats 8000000 in
theorem unitr_rune (s : ByteArray) (k : Nat) (w : World) (hs : s.size ≤ 1000) (hk : k < s.size) (h : ¬ (at0 s.data.toList k < 32 ∨ at0 s.data.toList k = 34)) (h92 : at0 s.data.toList k ≠ 92) : Calls Tryz.prog 44 #[.string s, .int .i64 (k : Int)] w (UnP (unitL s.data.toList k) w) := by
  have HU : Hid (unitL s.data.toList k = if runL s.data.toList k = 0 then ([], 0) else (cutL s.data.toList k (k + runL s.data.toList k), runL s.data.toList k)) := by
    show unitL s.data.toList k = _; unfold unitL; rw [if_neg h, if_pos h92]
  have hbi := byte_i s k hk
  have hk' : (k : Int) < (s.size : Int) := by omega
  have h1' : ¬ (s[k].toNat : Int) < 32 := by rw [hbi]; exact fun g => h (.inl g)
  have hd : decide ((s[k].toNat : Int) < 32) = false := by simpa using h1'
  have q : ((s[k].toNat : Int) == 34) = false := by rw [byte_q s k hk]; exact decide_eq_false fun g => h (.inr g)
  have q2 : ((s[k].toNat : Int) != 92) = true := by rw [bne, byte_q s k hk, decide_eq_false h92]; rfl
  clear h h92 hbi
  have hl := size_l s
  obtain ⟨cap, W0, hrun, hc1, hc2, hSl, hbl⟩ := Ut.bytes_conv (s.extract k s.size) w
  have hsz : (s.extract k s.size).size = s.size - k := by rw [ByteArray.size_extract]; omega
  have hnum : Ut.nums (s.extract k s.size) = nl (s.data.toList.drop k) := by rw [nums_cut, hl, cut_all]
  rw [hsz] at hrun hc1 hc2
  rw [hnum] at hSl
  have HX := Lib.hid (Ut.nextr_c (some ⟨w.heap.size, 0, none⟩) (s.size - k) cap (nl (s.data.toList.drop k)) W0 hSl (nl_byt _) (by rw [nl_len, List.length_drop, ← hl]) hc1 (hc2 (by omega)))
  have hwk := (Ut.nextW_k (nl (s.data.toList.drop k))).1
  rw [nl_len, List.length_drop, ← hl] at hwk
  have HRL : Hid (runL s.data.toList k = (Ut.nextW (nl (s.data.toList.drop k))).2.toNat) := rfl
  simp only [Ut.tup2] at HX
  have HBL := Lib.hid hbl
  clear hsz hnum hSl hbl hc1 hc2 hl
  revert HX hwk HRL
  generalize Ut.nextW (nl (s.data.toList.drop k)) = r
  intro HX hwk HRL
  obtain ⟨v, n⟩ := r
  simp only at HX hwk HRL
  by_cases hn : n < 1
  · have HR : Hid (unitL s.data.toList k = ([], 0)) := by show unitL s.data.toList k = _; rw [HU.out, if_pos (by rw [HRL.out]; omega)]
    go_enter Tryz.func44, Tryz.ntmps44
    go_wp2_with (go_at_call 52; refine HX.out.mono ?_; rintro e w1 ⟨rfl, hb1⟩; have HB1 := Lib.hid hb1; clear hb1)
    go_ret2
    exact unp_no (by rw [HR.out]) ⟨rfl, HBL.out.trans (HB1.out.mono HBL.out.size)⟩
  · obtain ⟨m, rfl⟩ : ∃ m : Nat, n = (m : Int) := ⟨n.toNat, by omega⟩
    have hm1 : 1 ≤ m := by omega
    have hmk : k + m ≤ s.size := by omega
    have hmk' : (k : Int) + (m : Int) ≤ (s.size : Int) := by omega
    have HR : Hid (unitL s.data.toList k = (cutL s.data.toList k (k + m), m)) := by
      show unitL s.data.toList k = _
      rw [HU.out, HRL.out, if_neg (by omega)]
      rw [show ((m : Int)).toNat = m by omega]
    have hls := size_l s
    have hsz2 : (s.extract k (k + m)).size = m := by rw [ByteArray.size_extract]; omega
    have HCV := Lib.hid (fun (W : World) => Ut.bytes_conv (s.extract k (k + m)) W)
    rw [hsz2] at HCV
    have hnm : Ut.nums (s.extract k (k + m)) = nl (cutL s.data.toList k (k + m)) := nums_cut _ _ _
    rw [hnm] at HCV
    have HLE : Hid ((cutL s.data.toList k (k + m)).length = m) := by show (cutL s.data.toList k (k + m)).length = m; rw [cutL_len (by rw [← hls]; omega)]; omega
    clear HU HRL hls hsz2 hnm hn hwk
    go_enter Tryz.func44, Tryz.ntmps44
    go_wp2_with fail
    refine HX.out.mono ?_
    rintro e w1 ⟨rfl, hb1⟩
    have HB1 := Lib.hid hb1
    clear hb1 hrun
    obtain ⟨cap2, W2, hrun2, _, _, hSl2, hbl2⟩ := HCV.out w1
    have HS2 := Lib.hid hSl2
    have HB2 := Lib.hid hbl2
    clear hSl2 hbl2
    go_wp2
    go_ret2
    have hB0 : Below w.heap.size w w1 := HBL.out.trans (HB1.out.mono HBL.out.size)
    have hne : nl (cutL s.data.toList k (k + m)) ≠ [] := fun g => by have := congrArg List.length g; rw [nl_len, HLE.out, List.length_nil] at this; omega
    obtain ⟨hg, hbt⟩ := sl_bts HS2.out hne
    exact unp_yes m (by rw [HR.out]) (by omega) w1.heap.size 0 m cap2 (by rw [HR.out, HLE.out]) rfl hg (by rw [HR.out]; exact hbt) (hB0.trans (HB2.out.mono hB0.size))
theorem pln_lit (x : ByteArray) : True := trivial
def plaL : List UInt8 := [34, 92, 47, 98, 102, 110, 114, 116]
def meaI : List Int := [34, 92, 47, 8, 12, 10, 13, 9]
def meaV : Array Value := #[.int .u8 34, .int .u8 92, .int .u8 47, .int .u8 8, .int .u8 12, .int .u8 10, .int .u8 13, .int .u8 9]
theorem pla_esc : ∀ j : Fin 8, escI (nb (plaL.getD j.val 0)) = meaI.getD j.val 0 := by decide +kernel
theorem pla_no (c : Int) (h : ∀ j, j < 8 → nb (plaL.getD j 0) ≠ c) : escI c = -1 := by
  have h0 := h 0 (by omega); have h1 := h 1 (by omega); have h2 := h 2 (by omega); have h3 := h 3 (by omega)
  have h4 := h 4 (by omega); have h5 := h 5 (by omega); have h6 := h 6 (by omega); have h7 := h 7 (by omega)
  simp only [plaL, List.getD_cons_zero, List.getD_cons_succ] at h0 h1 h2 h3 h4 h5 h6 h7
  have e : nb 34 = 34 ∧ nb 92 = 92 ∧ nb 47 = 47 ∧ nb 98 = 98 ∧ nb 102 = 102 ∧ nb 110 = 110 ∧ nb 114 = 114 ∧ nb 116 = 116 := by decide
  obtain ⟨e0, e1, e2, e3, e4, e5, e6, e7⟩ := e
  rw [e0] at h0; rw [e1] at h1; rw [e2] at h2; rw [e3] at h3; rw [e4] at h4; rw [e5] at h5; rw [e6] at h6; rw [e7] at h7
  unfold escI
  rw [if_neg (by omega), if_neg (by omega), if_neg (by omega), if_neg (by omega), if_neg (by omega), if_neg (by omega), if_neg (by omega), if_neg (by omega)]
theorem pla_byte (k : Nat) (hk : k < 8) : (ByteArray.mk #[34, 92, 47, 98, 102, 110, 114, 116])[k]'(by show k < 8; exact hk) = plaL.getD k 0 := by
  match k, hk with
  | 0, _ => rfl
  | 1, _ => rfl
  | 2, _ => rfl
  | 3, _ => rfl
  | 4, _ => rfl
  | 5, _ => rfl
  | 6, _ => rfl
  | 7, _ => rfl
theorem mea_at (k : Nat) (hk : k < 8) : meaV[k]? = some (.int .u8 (meaI.getD k 0)) := by
  match k, hk with
  | 0, _ => rfl
  | 1, _ => rfl
  | 2, _ => rfl
  | 3, _ => rfl
  | 4, _ => rfl
  | 5, _ => rfl
  | 6, _ => rfl
  | 7, _ => rfl
end Go.Proofs.YtpgllcdcpdeicaaGreatDoor.Jt

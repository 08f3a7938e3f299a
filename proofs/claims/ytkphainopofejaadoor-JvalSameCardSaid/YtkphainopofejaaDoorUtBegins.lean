/- The contract of the document's own Begins: true just if the bytes, one to three, are a true beginning of a rune's; for every row of bytes. -/
import Derived.Test.YtkphainopofejaaDoorUtEnc
import Derived.Deep.RegionWith
import Derived.Lib.SmallJoins
namespace Go.Proofs.YtkphainopofejaaDoor.Ut
open Go.RowKit
set_option linter.unusedSimpArgs false
set_option linter.unusedVariables false

theorem info5 : (Tryd.prog.info? 5).map (fun i => (i.zero, i.size, i.bytes)) = some (some (.int .u8 0), 1, 1) := by kernel_rfl
theorem conv_str {w : World} {b off len cap : Nat} {zs : List Int} (hB : Bts w b off zs) (hn : len = zs.length) : (convert 118 9 (.slice (some ⟨b, off, none⟩) len cap)).run Tryd.prog w = .ok (.string (strOfNums zs)) w := by
  subst hn
  refine run_convert_bytes_arg w 118 5 Tryd.underlying118 Tryd.underlying5 b off zs.length cap zs rfl (fun i hi => ?_) 9 Tryd.underlying9
  rw [hB i hi]
  simp [List.getD, List.getElem?_eq_getElem hi]

def sixL : List Int := [128, 143, 144, 159, 160, 191]
/-- the bytes that are tried: x behind them, then 128s -/
def fillL (zs : List Int) (m : Nat) (x : Int) : List Int := zs ++ x :: List.replicate (m - zs.length - 1) 128
theorem fill_len (zs : List Int) (m : Nat) (x : Int) (h : zs.length < m) : (fillL zs m x).length = m := by unfold fillL; simp; omega
theorem fill_byt (zs : List Int) (m : Nat) (x : Int) (hy : Byt zs) (hx : 0 ≤ x ∧ x ≤ 255) : Byt (fillL zs m x) := by
  intro z hz
  unfold fillL at hz
  rcases List.mem_append.1 hz with hz | hz
  · exact hy z hz
  · rcases List.mem_cons.1 hz with rfl | hz
    · exact hx
    · rw [(List.mem_replicate.1 hz).2]; omega
theorem fill_at_old (zs : List Int) (m : Nat) (x : Int) (j : Nat) (h : j < zs.length) : gd (fillL zs m x) j = gd zs j := by
  unfold gd fillL; simp [List.getD, List.getElem?_append_left h]
theorem fill_at_x (zs : List Int) (m : Nat) (x : Int) (j : Nat) (h : j = zs.length) : gd (fillL zs m x) j = x := by
  subst h; unfold gd fillL; simp [List.getD]
theorem fill_at_new (zs : List Int) (m : Nat) (x : Int) (j : Nat) (h : zs.length < j) (h2 : j < m) : gd (fillL zs m x) j = 128 := by
  unfold gd fillL
  obtain ⟨d, rfl⟩ : ∃ d, j = zs.length + (d + 1) := ⟨j - zs.length - 1, by omega⟩
  have : d < m - zs.length - 1 := by omega
  simp [List.getD, List.getElem?_append_right, List.getElem?_replicate, this]
theorem fill_snoc (zs : List Int) (m : Nat) (x : Int) (k : Nat) (h1 : zs.length ≤ k) (h2 : k < m) : (fillL zs m x).take (k + 1) = (fillL zs m x).take k ++ [if k = zs.length then x else 128] := by
  have hl := fill_len zs m x (by omega)
  rw [List.take_succ_eq_append_getElem (by omega), gd_at]
  by_cases e : k = zs.length
  · rw [if_pos e, fill_at_x zs m x k e]
  · rw [if_neg e, fill_at_new zs m x k (by omega) h2]
theorem fill_old (zs : List Int) (m : Nat) (x : Int) : (fillL zs m x).take zs.length = zs := by unfold fillL; simp

def begP (zs : List Int) : Prop := 1 ≤ zs.length ∧ zs.length ≤ 3 ∧ zs.length < szI (gd zs 0) ∧ okTo zs zs.length
instance (zs : List Int) : Decidable (begP zs) := by unfold begP; infer_instance
theorem six_range {x : Int} (h : x ∈ sixL) : 128 ≤ x ∧ x ≤ 191 := by
  simp only [sixL, List.mem_cons, List.mem_nil_iff, or_false] at h
  omega
theorem beg_yes {zs : List Int} {m : Nat} {x : Int} (hy : Byt zs) (h1 : 1 ≤ zs.length) (h3 : zs.length < m) (h4 : m ≤ 4) (hx : x ∈ sixL) (he : encOK (fillL zs m x) m) : begP zs := by
  have hxr := six_range hx
  rw [enc_iff _ m (fill_byt zs m x hy (by omega)) (by omega) h4 (by rw [fill_len zs m x h3]; exact Nat.le_refl _), fill_at_old zs m x 0 (by omega)] at he
  refine ⟨h1, by omega, by omega, fun j hj hj1 => ?_⟩
  have := he.2 j (by omega) hj1
  unfold okAt at this ⊢
  rw [fill_at_old zs m x j hj, fill_at_old zs m x 0 (by omega)] at this
  by_cases e : j = 1
  · subst e; rw [fill_at_old zs m x 1 hj] at this; exact this
  · rw [if_neg e] at this ⊢; exact this
theorem beg_no {zs : List Int} (hy : Byt zs) (h : ∀ m x, zs.length < m → m ≤ 4 → x ∈ sixL → ¬ encOK (fillL zs m x) m) : ¬ begP zs := by
  rintro ⟨h1, h3, hs, hok⟩
  have hs4 : szI (gd zs 0) ≤ 4 := by unfold szI; (repeat' split) <;> omega
  have hlo : lo2 (gd zs 0) ∈ sixL := by unfold lo2; (repeat' split) <;> simp [sixL]
  have hlr := six_range hlo
  have hlh : lo2 (gd zs 0) ≤ hi2 (gd zs 0) := by unfold lo2 hi2; (repeat' split) <;> omega
  refine h (szI (gd zs 0)) (if zs.length = 1 then lo2 (gd zs 0) else 128) hs hs4 (by split; exact hlo; simp [sixL]) ?_
  have hxr : 0 ≤ (if zs.length = 1 then lo2 (gd zs 0) else 128) ∧ (if zs.length = 1 then lo2 (gd zs 0) else 128) ≤ 255 := by split <;> omega
  rw [enc_iff _ _ (fill_byt zs _ _ hy hxr) (by omega) hs4 (by rw [fill_len zs _ _ hs]; exact Nat.le_refl _), fill_at_old zs _ _ 0 (by omega)]
  refine ⟨rfl, fun j hj hj1 => ?_⟩
  by_cases hjl : j < zs.length
  · have := hok j hjl hj1
    unfold okAt at this ⊢
    rw [fill_at_old zs _ _ j hjl, fill_at_old zs _ _ 0 (by omega)]
    by_cases e : j = 1
    · subst e; rw [fill_at_old zs _ _ 1 hjl]; exact this
    · rw [if_neg e] at this ⊢; exact this
  · unfold okAt
    by_cases e : j = 1
    · subst e
      have el : zs.length = 1 := by omega
      rw [if_pos rfl, fill_at_old zs _ _ 0 (by omega), fill_at_x zs _ _ 1 el.symm, if_pos el]
      exact ⟨Int.le_refl _, hlh⟩
    · rw [if_neg e]
      by_cases e2 : j = zs.length
      · rw [fill_at_x zs _ _ j e2, if_neg (by omega)]; omega
      · rw [fill_at_new zs _ _ j (by omega) hj]; omega

theorem bts_own {w : World} {B g cap n : Nat} {zs : List Int} (h : w.ownsRow B 5 1 (.slice (some ⟨g, 0, none⟩) n cap) n (zs.map (Value.int .u8))) : Bts w g 0 zs := by
  intro j hj
  have hl := h.1
  rw [List.length_map] at hl
  rw [Nat.zero_add, h.cellAt j (by omega)]
  simp [hj]
end Go.Proofs.YtkphainopofejaaDoor.Ut

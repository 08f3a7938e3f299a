/- The document's Add, that goes well; no other condition. -/
import Derived.Test.YtjjnjankjbiigaaPnJ
namespace Go.Proofs.Ytjjnjankjbiigaa.Pn
open Go.RowKit Go.Lib Go.Maps
set_option linter.unusedSimpArgs false
set_option linter.unusedVariables false

theorem infoRP : (Try.prog.info? 50).map (fun i => (i.zero, i.size, i.bytes)) = some (some (.agg #[.int .i64 0, .int .i64 0, .bool false]), 3, 24) := by kernel_rfl
theorem apR {B d g1 c1 : Nat} {m : Int} {l : List Pin} {v : Value} {W WB V : World} (hk : W.heap[d]? = some (obR m v)) (hne : v.ownBlock ≠ some d) (hb : Below W.heap.size W WB) (x : Pin)
    (hown : V.ownsRow B 50 3 (.slice (some ⟨g1, 0, none⟩) (l.length + 1) c1) (l.length + 1) (pC l ++ encP x)) (hgrow : WB.grownBy V v.ownBlock) (hat : v.ownBlock = some g1 ∨ g1 = WB.heap.size) :
    V.heap[d]? = some (obR m v) ∧ IsRp B d (some g1) m (l ++ [x]) (V.setCell ⟨d, 0, none⟩ (.slice (some ⟨g1, 0, none⟩) (l.length + 1) c1)) ∧ Ch d v.ownBlock W (V.setCell ⟨d, 0, none⟩ (.slice (some ⟨g1, 0, none⟩) (l.length + 1) c1)) ∧ NewB v.ownBlock (some g1) W := by
  have hcl : d < W.heap.size := (Array.getElem?_eq_some_iff.1 hk).1
  have hkB := (hb.block d hcl).trans hk
  have hclB : d < WB.heap.size := (Array.getElem?_eq_some_iff.1 hkB).1
  have hkV : V.heap[d]? = some (obR m v) := (hgrow.block d hclB (fun e => hne e.symm)).trans hkB
  have hs := hb.size
  have hgd : g1 ≠ d := by
    rcases hat with h | h
    · intro e; exact hne (by rw [h, e])
    · omega
  refine ⟨hkV, ⟨⟨.slice (some ⟨g1, 0, none⟩) (l.length + 1) c1, ?_, ?_, rfl⟩, fun e => hgd (by injection e)⟩, ?_, ?_⟩
  · simpa using blk_set hkV 0 (.slice (some ⟨g1, 0, none⟩) (l.length + 1) c1)
  · rw [pC_snoc, List.length_append]
    exact own_kept hown (fun q hq => by have : g1 = q := by injection hq
                                        rw [← this]; exact set_oth _ _ _ _ hgd)
  · exact ((Ch.of hb).tr (Ch.grown hgrow)).tr (Ch.set _ _ _)
  · rcases hat with h | h
    · exact .inl h.symm
    · exact .inr (.inr ⟨g1, rfl, by omega⟩)
set_option maxRecDepth 100000 in
set_option maxHeartbeats 4000000 in
theorem Add_rok {B d : Nat} {gd : Option Nat} {m : Int} {l : List Pin} {w : World} (h : IsRp B d gd m l w) (hB : B ≤ w.heap.size) {r : Int} (u : Int) (hr : 0 ≤ r) (hl : l.length ≤ 1000000) (hf : ¬ m ≤ (cnt l : Int)) : Calls Try.prog 20 #[.pointer (some ⟨d, 0, none⟩), .int .i64 r, .int .i64 u] w (AdR B d gd m (l ++ [(r, u, true)]) w) := by
  obtain ⟨i0, hi, hz0, hz1, hz2⟩ := info_parts infoRP
  have hr0 : ¬ r < 0 := by omega
  have HL : Hid (∀ W, Below w.heap.size w W → Calls Try.prog 10 #[.pointer (some ⟨d, 0, none⟩)] W fun e w' => e = .returned (.int .i64 (cnt l : Nat)) ∧ Below W.heap.size W w') := fun W hb => Len_r (h.go hb) hl
  have hdl := h.lt
  obtain ⟨v, hv, ho, hgd⟩ := h.ex
  have hne : v.ownBlock ≠ some d := by rw [hgd]; exact h.ne
  have HK : Hid (∀ W, Below w.heap.size w W → W.heap[d]? = some (obR m v) ∧ W.cell? ⟨d, 1, none⟩ = some (.int .i64 m) ∧ W.cell? ⟨d, 0, none⟩ = some v) := fun W hb => by
    have := (hb.block d h.lt).trans hv
    exact ⟨this, (cells2 this).2, (cells2 this).1⟩
  obtain ⟨c0, c1⟩ := cells2 hv
  have c1d : w.drew.cell? ⟨d, 1, none⟩ = some (.int .i64 m) := c1
  have HO := Lib.hid ho
  have HNE := Lib.hid hne
  subst hgd
  obtain ⟨ao, cap, rfl⟩ := own_form ho
  clear h hv ho hne
  revert HL hf
  generalize cnt l = k
  intro hf HL
  go_enter Try.func20, Try.ntmps20
  go_upto_region 3 with (fail)
  go_region_held3 (fun V => V.cell? ⟨d, 1, none⟩ = some (.int .i64 m) ∧ Below w.heap.size w V) (first | exact ⟨c1, bdr w⟩ | exact ⟨k1, HB1⟩) (first | (go_at_call 10; refine (HL.out _ (bdr w)).mono ?_; rintro e w1 ⟨rfl, hb1⟩; have HB1 : Below w.heap.size w w1 := (bdr w).trans (hb1.mono (bdr w).size); have k1 := (HK.out w1 HB1).2.1))
  all_goals
    obtain ⟨hk1, _, g0⟩ := HK.out w1 HB1
    have hs1 := HB1.size
    have ho1 := own_go HO.out HB1
    obtain ⟨WB, hWB, hkB, hbB⟩ := new3 w1 (.int .i64 r) (.int .i64 u) (.bool true) 50
    have n0 := World.new_ne w1 _ g0
    have HOB := Lib.hid (own_go ho1 hbB)
    have HWB := Lib.hid hWB
    have HC : Hid (∀ i q, (encP (r, u, true))[i]? = some q → WB.cell? ((⟨w1.heap.size, 0, none⟩ : Addr).add i) = some q) := World.news_of_block (cs := #[.int .i64 r, .int .i64 u, .bool true]) hkB
    have DE := Lib.hid (encP_ok (r, u, true))
    have D3 : Hid (l.length + 1 ≤ maxLen) := by show _ ≤ _; unfold maxLen; omega
    have D4 : Hid ((l.length + 1) * 24 ≤ 140737488355328) := by show _ ≤ _; omega
    have D5 : Hid (B ≤ WB.heap.size) := by have := hbB.size; show _ ≤ _; omega
    have HK1 := Lib.hid hk1
    have HBB := Lib.hid hbB
    have HB2 := Lib.hid HB1
    clear ho1 hWB hkB hbB hk1 c0 c1 c1d HL k1 hb1 HB1
    go_wp2_with (at_builtin; rw [← HWB.out]; refine wpList_append_lies _ rfl _ _ 36 rfl B 50 i0 _ 3 24 Try.underlying36 hi hz0 hz1 hz2 rfl (by decide) _ _ _ rfl HOB.out ⟨w1.heap.size, 0, none⟩ 1 1 (encP (r, u, true)) rfl rfl HC.out DE.out (by decide) D3.out D4.out D5.out _ rfl ?_; intro g1 cq V hown hgrow hat hlt; obtain ⟨hkV, hI, hC, hN⟩ := apR HK1.out HNE.out HBB.out (r, u, true) hown hgrow hat; have v0 := cell_of_row _ _ 0 _ _ _ hkV; have f0 := frzB hkV 0; have HI := Lib.hid hI; have HCH := Lib.hid hC; have HN := Lib.hid hN; have kv := blk_set hkV 0 (.slice (some ⟨g1, 0, none⟩) (l.length + 1) cq); have kv0 := cell_of_row _ _ 0 _ _ _ kv; clear hown hgrow hat hlt hkV hI hC hN kv)
    have HQ : Hid (AdR B d (Value.slice ao l.length cap).ownBlock m (l ++ [(r, u, true)]) w (.returned (.tuple #[.int .i64 ((l.length : Int) + 1), .int .i64 0])) (V.setCell ⟨d, 0, none⟩ (.slice (some ⟨g1, 0, none⟩) (l.length + 1) cq))) :=
      ⟨by simp, _, HI.out, (Ch.of HB2.out).tr HCH.out, by
        rcases HN.out with h | h | ⟨g, h, hge⟩
        · exact .inl h
        · exact .inr (.inl h)
        · exact .inr (.inr ⟨g, h, by omega⟩)⟩
    clear HI HCH HN
    go_wp2
    exact bodyPost_ret (v := .tuple #[.int .i64 ((l.length : Int) + 1), .int .i64 0]) (by simp [results, Try.results20, go_sem]) rfl HQ.out
end Go.Proofs.Ytjjnjankjbiigaa.Pn

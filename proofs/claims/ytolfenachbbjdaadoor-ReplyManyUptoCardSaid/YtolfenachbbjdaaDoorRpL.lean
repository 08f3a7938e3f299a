/- The contract of package reply's ofLines: for lines of at most a thousand bytes. -/
import Derived.Test.YtolfenachbbjdaaDoorRpK
namespace Go.Proofs.YtolfenachbbjdaaDoor.Rp
open Go.RowKit Ch Hd
set_option linter.unusedSimpArgs false
set_option linter.unusedVariables false

def fldsA : List FB → List ByteArray → Option (List FB)
  | acc, [] => some acc
  | acc, l :: r => match ofL l.data.toList with
    | none => none
    | some z => fldsA (acc ++ [(mkS z.1, mkS z.2)]) r
theorem flds_nil (acc : List FB) : fldsA acc [] = some acc := rfl
theorem flds_no {acc : List FB} {l : ByteArray} {r : List ByteArray} (h : ofL l.data.toList = none) : fldsA acc (l :: r) = none := by rw [fldsA, h]
theorem flds_yes {acc : List FB} {l : ByteArray} {r : List ByteArray} {z : List UInt8 × List UInt8} (h : ofL l.data.toList = some z) : fldsA acc (l :: r) = fldsA (acc ++ [(mkS z.1, mkS z.2)]) r := by rw [fldsA, h]
def verL : List UInt8 := [72, 84, 84, 80, 47, 49, 46, 49, 32]
/-- the lines that are fields, but the length's -/
def lnsL (n : Int) (r : List ByteArray) : List ByteArray := if barB n then r else r.take (r.length - 1)
/-- the reply of lines -/
def ofLnL (ps : List ByteArray) (body : ByteArray) : Option (Int × List FB × ByteArray) := match ps with
  | [] => none
  | p :: r => if Lib.hasPrefix p.data.toList verL = false then none else
    if rE (cutP 32 (Lib.trimPrefix p.data.toList verL)).1 ≠ 0 then none else
      match fldsA [] (lnsL (rN (cutP 32 (Lib.trimPrefix p.data.toList verL)).1) r) with
      | none => none
      | some fs => some (rN (cutP 32 (Lib.trimPrefix p.data.toList verL)).1, fs, ofBody (rN (cutP 32 (Lib.trimPrefix p.data.toList verL)).1) body)
def OlQ (B : Nat) (q : Option (Int × List FB × ByteArray)) (e : Ending) (w' : World) : Prop := match q with
  | none => e = .returned (.tuple #[.agg #[.int .i64 0, .slice none 0 0, .string ⟨#[]⟩], .bool false])
  | some x => ∃ aq cq, e = .returned (.tuple #[.agg #[.int .i64 x.1, .slice aq x.2.1.length cq, .string x.2.2], .bool true]) ∧ OwF 61 B (.slice aq x.2.1.length cq) x.2.1 w'
theorem olq_no {B : Nat} {q : Option (Int × List FB × ByteArray)} {e : Ending} {w' : World} (hq : q = none) (he : e = .returned (.tuple #[.agg #[.int .i64 0, .slice none 0 0, .string ⟨#[]⟩], .bool false])) : OlQ B q e w' := by subst hq; exact he
theorem olq_yes {B : Nat} {q : Option (Int × List FB × ByteArray)} {x : Int × List FB × ByteArray} {e : Ending} {w' : World} (hq : q = some x) {aq : Option Addr} {cq : Nat} (he : e = .returned (.tuple #[.agg #[.int .i64 x.1, .slice aq x.2.1.length cq, .string x.2.2], .bool true])) (ho : OwF 61 B (.slice aq x.2.1.length cq) x.2.1 w') : OlQ B q e w' := by subst hq; exact ⟨aq, cq, he, ho⟩
/-- the call's own result, as it lies first -/
def Zr (w V : World) : Prop := Below w.heap.size w V ∧ V.heap[w.heap.size]? = some (.cells #[.int .i64 0, .slice none 0 0, .string ⟨#[]⟩] 31 (0, 0))
theorem Zr.lt {w V : World} (h : Zr w V) : w.heap.size < V.heap.size := (Array.getElem?_eq_some_iff.1 h.2).1
theorem Zr.go {w V V' : World} (h : Zr w V) (hb : Below V.heap.size V V') : Zr w V' := ⟨h.1.trans (hb.mono h.1.size), (hb.block _ h.lt).trans h.2⟩
theorem Zr.new (w : World) : Zr w (w.alloc (.cells #[.int .i64 0, .slice none 0 0, .string ⟨#[]⟩] 31)) := ⟨(Below.refl _ _).alloc (Nat.le_refl _) _, heap_alloc_new w _⟩
theorem bel_drewN (W : World) (n : Nat) : Below W.heap.size W (W.drewN n) := below_drewN (Below.refl W.heap.size W) n
set_option maxRecDepth 100000 in
set_option maxHeartbeats 2000000 in
theorem ol_a (p : ByteArray) (g k : Nat) (body rest : ByteArray) (w : World) (h0 : w.cell? ⟨g, 0, none⟩ = some (.string p)) (hg : g < w.heap.size)
    (HP : Hid (∀ W, Calls Tryd.prog 49 #[.string p, .string ⟨#[72, 84, 84, 80, 47, 49, 46, 49, 32]⟩] W fun e w' => e = .returned (.tuple #[.string rest, .bool false]) ∧ w' = W)) :
    Calls Tryd.prog 34 #[.slice (some ⟨g, 0, none⟩) (k + 1) (k + 1), .string body] w fun e w' => e = .returned (.tuple #[.agg #[.int .i64 0, .slice none 0 0, .string ⟨#[]⟩], .bool false]) ∧ Below w.heap.size w w' := by
  have HZ := Lib.hid (Zr.new w)
  have HZB : Hid (Below w.heap.size w (w.alloc (.cells #[.int .i64 0, .slice none 0 0, .string ⟨#[]⟩] 31))) := HZ.out.1
  have hn : g ≠ w.heap.size := by omega
  go_enter Tryd.func34, Tryd.ntmps34
  go_wp2_with fail
  refine (HP.out _).mono ?_
  rintro e w1 ⟨rfl, hw⟩
  rw [hw]; clear hw
  go_wp2
  obtain ⟨d0, d1, d2⟩ := cells3 HZ.out.2
  (with_reducible refine bodyPost_ret (v := .tuple #[.agg #[.int .i64 0, .slice none 0 0, .string ⟨#[]⟩], .bool false]) (by simp [results, Tryd.results34, go_sem, d0, d1, d2]) rfl ⟨rfl, HZB.out⟩)
set_option maxRecDepth 100000 in
set_option maxHeartbeats 2000000 in
theorem ol_b (p : ByteArray) (g k : Nat) (body rest dg r2 : ByteArray) (fd : Bool) (n e0 : Int) (w : World) (h0 : w.cell? ⟨g, 0, none⟩ = some (.string p)) (hg : g < w.heap.size) (he : (e0 != 0) = true)
    (HP : Hid (∀ W, Calls Tryd.prog 49 #[.string p, .string ⟨#[72, 84, 84, 80, 47, 49, 46, 49, 32]⟩] W fun e w' => e = .returned (.tuple #[.string rest, .bool true]) ∧ w' = W))
    (HC : Hid (∀ W, Calls Tryd.prog 31 #[.string rest, .string ⟨#[32]⟩] W fun e w' => e = .returned (.tuple #[.string dg, .string r2, .bool fd]) ∧ ∃ n, w' = W.drewN n))
    (HS : Hid (∀ W, Calls Tryd.prog 48 #[.string dg] W fun e w' => e = .returned (.tuple #[.int .i64 n, .int .i64 e0]) ∧ W = w')) :
    Calls Tryd.prog 34 #[.slice (some ⟨g, 0, none⟩) (k + 1) (k + 1), .string body] w fun e w' => e = .returned (.tuple #[.agg #[.int .i64 0, .slice none 0 0, .string ⟨#[]⟩], .bool false]) ∧ Below w.heap.size w w' := by
  have HZ := Lib.hid (Zr.new w)
  have hn : g ≠ w.heap.size := by omega
  go_enter Tryd.func34, Tryd.ntmps34
  go_wp2_with fail
  refine (HP.out _).mono ?_
  rintro e w1 ⟨rfl, hw⟩
  rw [hw]; clear hw
  go_wp2_with fail
  refine (HC.out _).mono ?_
  rintro e w2 ⟨rfl, nd, hw⟩
  have HZ2 : Hid (Zr w w2) := by show Zr w w2; rw [hw]; exact HZ.out.go (bel_drewN _ _)
  clear hw
  go_wp2_with fail
  refine (HS.out _).mono ?_
  rintro e w3 ⟨rfl, hw⟩
  rw [← hw]; clear hw
  obtain ⟨c0, c1, c2⟩ := cells3 HZ2.out.2
  have z0 := frz2 HZ2.out.2 0
  have z1 := frz2 HZ2.out.2 1
  have z2 := frz2 HZ2.out.2 2
  have HH := Lib.hid (st3 HZ2.out.2 (.int .i64 0) (.slice none 0 0) (.string ⟨#[]⟩))
  have HHB : Hid (Below w.heap.size w (((w2.setCell ⟨w.heap.size, 0, none⟩ (.int .i64 0)).setCell ⟨w.heap.size, 1, none⟩ (.slice none 0 0)).setCell ⟨w.heap.size, 2, none⟩ (.string ⟨#[]⟩))) := ((HZ2.out.1.setCell (p := ⟨w.heap.size, 0, none⟩) (Nat.le_refl _) _).setCell (p := ⟨w.heap.size, 1, none⟩) (Nat.le_refl _) _).setCell (p := ⟨w.heap.size, 2, none⟩) (Nat.le_refl _) _
  go_wp2
  obtain ⟨d0, d1, d2⟩ := cells3 HH.out
  clear c0 c1 c2 z0 z1 z2
  (with_reducible refine bodyPost_ret (v := .tuple #[.agg #[.int .i64 0, .slice none 0 0, .string ⟨#[]⟩], .bool false]) (by simp [results, Tryd.results34, go_sem, d0, d1, d2]) rfl ⟨rfl, HHB.out⟩)
set_option maxRecDepth 100000 in
set_option maxHeartbeats 8000000 in
theorem ol_bar0 (p : ByteArray) (g k : Nat) (ls : List ByteArray) (body rest dg r2 bd : ByteArray) (fd : Bool) (n : Int) (qq : Option (Int × List FB × ByteArray)) (w : World) (h0 : w.cell? ⟨g, 0, none⟩ = some (.string p)) (hg : g < w.heap.size) (hk : k ≤ 1000000)
    (HLS : Hid (LnS g 1 ls w)) (hls : ls.length = 0) (HSZ : Hid (∀ l ∈ ls, l.size ≤ 5000000))
    (HQ : Hid (qq = match fldsA [] ls with | none => none | some fs => some (n, fs, bd)))
    (HP : Hid (∀ W, Calls Tryd.prog 49 #[.string p, .string ⟨#[72, 84, 84, 80, 47, 49, 46, 49, 32]⟩] W fun e w' => e = .returned (.tuple #[.string rest, .bool true]) ∧ w' = W))
    (HC : Hid (∀ W, Calls Tryd.prog 31 #[.string rest, .string ⟨#[32]⟩] W fun e w' => e = .returned (.tuple #[.string dg, .string r2, .bool fd]) ∧ ∃ n, w' = W.drewN n))
    (HS : Hid (∀ W, Calls Tryd.prog 48 #[.string dg] W fun e w' => e = .returned (.tuple #[.int .i64 n, .int .i64 0]) ∧ W = w'))
    (HOF : Hid (∀ W, Calls Tryd.prog 18 #[.int .i64 n, .string body] W fun e w' => e = .returned (.agg #[.int .i64 n, .slice none 0 0, .string bd]) ∧ Below W.heap.size W w'))
    (HB : Hid (∀ W, Calls Tryd.prog 22 #[.int .i64 n] W fun e w' => e = .returned (.bool true) ∧ W = w')) :
    Calls Tryd.prog 34 #[.slice (some ⟨g, 0, none⟩) (0 + 1) (0 + 1), .string body] w fun e w' => OlQ w.heap.size qq e w' ∧ Below w.heap.size w w' := by
  obtain ⟨i0, hi, hz0, hz1, hz2⟩ := info_parts infoF
  have HZ := Lib.hid (Zr.new w)
  have hn : g ≠ w.heap.size := by omega
  have HGL : Hid (g < w.heap.size) := hg
  have HLL : Hid (ls.length = 0) := hls
  clear hls
  go_enter Tryd.func34, Tryd.ntmps34
  go_wp2_with fail
  refine (HP.out _).mono ?_
  rintro e w1 ⟨rfl, hw⟩
  rw [hw]; clear hw
  go_wp2_with fail
  refine (HC.out _).mono ?_
  rintro e w2 ⟨rfl, nd, hw⟩
  have HZ2 : Hid (Zr w w2) := by show Zr w w2; rw [hw]; exact HZ.out.go (bel_drewN _ _)
  clear hw HZ
  go_wp2_with fail
  refine (HS.out _).mono ?_
  rintro e w3 ⟨rfl, hw⟩
  rw [← hw]; clear hw
  go_wp2_with fail
  refine (HOF.out _).mono ?_
  rintro e w3 ⟨rfl, hb3⟩
  obtain ⟨W0, hW0, HR0, HK0, HB0, HZ0, HLN⟩ : ∃ W0, W0 = w3.alloc (.cells #[.int .i64 n, .slice none 0 0, .string bd] 31) ∧ Hid (W0.heap[w.heap.size]? = some (.cells #[.int .i64 0, .slice none 0 0, .string ⟨#[]⟩] 31 (0, 0))) ∧ Hid (W0.heap[w3.heap.size]? = some (.cells #[.int .i64 n, .slice none 0 0, .string bd] 31 (0, 0))) ∧ Hid (Below w.heap.size w W0) ∧ Hid (W0.heap.size = w3.heap.size + 1) ∧ Hid (w.heap.size < w3.heap.size) :=
    ⟨_, rfl, ((HZ2.out.go hb3).go ((Below.refl _ _).alloc (Nat.le_refl _) _)).2, heap_alloc_new w3 _, ((HZ2.out.go hb3).go ((Below.refl _ _).alloc (Nat.le_refl _) _)).1, by show _ = _; simp, (HZ2.out.go hb3).lt⟩
  have HWE := Lib.hid hW0
  clear hW0 hb3 HZ2
  go_wp2_with (first
    | (go_at_call 22; refine (HB.out _).mono ?_; rintro e w6 ⟨rfl, hw⟩; rw [← hw]; clear hw))
  rw [← HWE.out]
  clear HWE
  generalize w3.heap.size = b at HK0 HZ0 HLN ⊢
  go_loopw [59] (fun i wr => ∃ (j : Nat) (v : Value) (acc : List FB), j ≤ 0 ∧ i = .int .i64 j ∧ wr.heap[b]? = some (.cells #[.int .i64 n, v, .string bd] 31 (0, 0)) ∧ OwF 61 (b + 1) v acc wr ∧ W0.grownBy wr (some b) ∧ Hid (qq = match fldsA acc (ls.drop j) with | none => none | some fs => some (n, fs, bd)) ∧ acc.length = j) (fun i _ => 0 - (intOf i).toNat)
  case atStart => exact ⟨0, _, [], by omega, rfl, HK0.out, World.ownsRow_nil _ _ _ _, gb_refl _ _, Lib.hid (by rw [List.drop_zero]; exact HQ.out), rfl⟩
  case round =>
    obtain ⟨j, v, acc, hj, rfl, hK, hI, hG, HQJ, haj⟩ := hrel
    have HK := Lib.hid hK
    have HI := Lib.hid hI
    have HG := Lib.hid hG
    have HAJ : Hid (acc.length = j) := haj
    have hsz : b + 1 ≤ wr.heap.size := by have := hG.size; rw [HZ0.out] at this; exact this
    obtain ⟨ai, ci, hv⟩ := own_len hI
    rw [haj] at hv
    subst hv
    clear hK hI hG haj
    have HRr : Hid (wr.heap[w.heap.size]? = some (.cells #[.int .i64 0, .slice none 0 0, .string ⟨#[]⟩] 31 (0, 0))) := (HG.out.block _ (by rw [HZ0.out]; have := HLN.out; omega) (fun e => by injection e with e; have := HLN.out; omega)).trans HR0.out
    have HBr : Hid (Below w.heap.size w wr) := HB0.out.grown HG.out HB0.out.size (fun k hk => by injection hk with e; have := HLN.out; omega)
    by_cases hlt : j < 0
    · exact absurd hlt (Nat.not_lt_zero _)
    · have hje : 0 = j := by omega
      subst hje
      have HQE : Hid (qq = some (n, acc, bd)) := by
        have h := HQJ.out
        rw [List.drop_of_length_le (by rw [HLL.out]; omega), flds_nil] at h
        exact h
      obtain ⟨k0, k1, k2⟩ := cells3 HK.out
      obtain ⟨c0, c1, c2⟩ := cells3 HRr.out
      have z0 := frz2 HRr.out 0
      have z1 := frz2 HRr.out 1
      have z2 := frz2 HRr.out 2
      have HH := Lib.hid (st3 HRr.out (.int .i64 n) (.slice ai (0) ci) (.string bd))
      have HHB : Hid (Below w.heap.size w (((wr.setCell ⟨w.heap.size, 0, none⟩ (.int .i64 n)).setCell ⟨w.heap.size, 1, none⟩ (.slice ai (0) ci)).setCell ⟨w.heap.size, 2, none⟩ (.string bd))) := ((HBr.out.setCell (p := ⟨w.heap.size, 0, none⟩) (Nat.le_refl _) _).setCell (p := ⟨w.heap.size, 1, none⟩) (Nat.le_refl _) _).setCell (p := ⟨w.heap.size, 2, none⟩) (Nat.le_refl _) _
      have HGS := Lib.hid (gb_trans (gb_trans (gb_set wr (w.heap.size) 0 (.int .i64 n)) (gb_set _ (w.heap.size) 1 (.slice ai (0) ci))) (gb_set _ (w.heap.size) 2 (.string bd)))
      have HOS : Hid (OwF 61 w.heap.size (.slice ai acc.length ci) acc (((wr.setCell ⟨w.heap.size, 0, none⟩ (.int .i64 n)).setCell ⟨w.heap.size, 1, none⟩ (.slice ai (0) ci)).setCell ⟨w.heap.size, 2, none⟩ (.string bd))) := by
        have h := OwF.mono (B' := w.heap.size) (HI.out.gb HGS.out (by have := HLN.out; omega)) (by have := HLN.out; omega)
        rw [← HAJ.out] at h ⊢
        exact h
      have HEQ : Hid (Value.agg #[.int .i64 n, (.slice ai (0) ci), .string bd] = .agg #[.int .i64 n, .slice ai acc.length ci, .string bd]) := by show _ = _; rw [HAJ.out]
      go_wp2
      obtain ⟨d0, d1, d2⟩ := cells3 HH.out
      clear c0 c1 c2 z0 z1 z2 k0 k1 k2
      (with_reducible refine bodyPost_ret (v := .tuple #[.agg #[.int .i64 n, (.slice ai (0) ci), .string bd], .bool true]) (by simp [results, Tryd.results34, go_sem, d0, d1, d2]) rfl ⟨olq_yes HQE.out (by rw [HEQ.out]) HOS.out, HHB.out⟩)
set_option maxRecDepth 100000 in
set_option maxHeartbeats 8000000 in
theorem ol_bar (p : ByteArray) (g k : Nat) (ls : List ByteArray) (body rest dg r2 bd : ByteArray) (fd : Bool) (n : Int) (qq : Option (Int × List FB × ByteArray)) (w : World) (h0 : w.cell? ⟨g, 0, none⟩ = some (.string p)) (hg : g < w.heap.size) (hk : k ≤ 1000000)
    (HLS : Hid (LnS g 1 ls w)) (hls : ls.length = (k + 1)) (HSZ : Hid (∀ l ∈ ls, l.size ≤ 5000000))
    (HQ : Hid (qq = match fldsA [] ls with | none => none | some fs => some (n, fs, bd)))
    (HP : Hid (∀ W, Calls Tryd.prog 49 #[.string p, .string ⟨#[72, 84, 84, 80, 47, 49, 46, 49, 32]⟩] W fun e w' => e = .returned (.tuple #[.string rest, .bool true]) ∧ w' = W))
    (HC : Hid (∀ W, Calls Tryd.prog 31 #[.string rest, .string ⟨#[32]⟩] W fun e w' => e = .returned (.tuple #[.string dg, .string r2, .bool fd]) ∧ ∃ n, w' = W.drewN n))
    (HS : Hid (∀ W, Calls Tryd.prog 48 #[.string dg] W fun e w' => e = .returned (.tuple #[.int .i64 n, .int .i64 0]) ∧ W = w'))
    (HOF : Hid (∀ W, Calls Tryd.prog 18 #[.int .i64 n, .string body] W fun e w' => e = .returned (.agg #[.int .i64 n, .slice none 0 0, .string bd]) ∧ Below W.heap.size W w'))
    (HB : Hid (∀ W, Calls Tryd.prog 22 #[.int .i64 n] W fun e w' => e = .returned (.bool true) ∧ W = w')) :
    Calls Tryd.prog 34 #[.slice (some ⟨g, 0, none⟩) ((k + 1) + 1) ((k + 1) + 1), .string body] w fun e w' => OlQ w.heap.size qq e w' ∧ Below w.heap.size w w' := by
  obtain ⟨i0, hi, hz0, hz1, hz2⟩ := info_parts infoF
  have HZ := Lib.hid (Zr.new w)
  have hn : g ≠ w.heap.size := by omega
  have HGL : Hid (g < w.heap.size) := hg
  have HLL : Hid (ls.length = (k + 1)) := hls
  clear hls
  go_enter Tryd.func34, Tryd.ntmps34
  go_wp2_with fail
  refine (HP.out _).mono ?_
  rintro e w1 ⟨rfl, hw⟩
  rw [hw]; clear hw
  go_wp2_with fail
  refine (HC.out _).mono ?_
  rintro e w2 ⟨rfl, nd, hw⟩
  have HZ2 : Hid (Zr w w2) := by show Zr w w2; rw [hw]; exact HZ.out.go (bel_drewN _ _)
  clear hw HZ
  go_wp2_with fail
  refine (HS.out _).mono ?_
  rintro e w3 ⟨rfl, hw⟩
  rw [← hw]; clear hw
  go_wp2_with fail
  refine (HOF.out _).mono ?_
  rintro e w3 ⟨rfl, hb3⟩
  obtain ⟨W0, hW0, HR0, HK0, HB0, HZ0, HLN⟩ : ∃ W0, W0 = w3.alloc (.cells #[.int .i64 n, .slice none 0 0, .string bd] 31) ∧ Hid (W0.heap[w.heap.size]? = some (.cells #[.int .i64 0, .slice none 0 0, .string ⟨#[]⟩] 31 (0, 0))) ∧ Hid (W0.heap[w3.heap.size]? = some (.cells #[.int .i64 n, .slice none 0 0, .string bd] 31 (0, 0))) ∧ Hid (Below w.heap.size w W0) ∧ Hid (W0.heap.size = w3.heap.size + 1) ∧ Hid (w.heap.size < w3.heap.size) :=
    ⟨_, rfl, ((HZ2.out.go hb3).go ((Below.refl _ _).alloc (Nat.le_refl _) _)).2, heap_alloc_new w3 _, ((HZ2.out.go hb3).go ((Below.refl _ _).alloc (Nat.le_refl _) _)).1, by show _ = _; simp, (HZ2.out.go hb3).lt⟩
  have HWE := Lib.hid hW0
  clear hW0 hb3 HZ2
  go_wp2_with (first
    | (go_at_call 22; refine (HB.out _).mono ?_; rintro e w6 ⟨rfl, hw⟩; rw [← hw]; clear hw))
  rw [← HWE.out]
  clear HWE
  generalize w3.heap.size = b at HK0 HZ0 HLN ⊢
  go_loopw [59] (fun i wr => ∃ (j : Nat) (v : Value) (acc : List FB), j ≤ (k + 1) ∧ i = .int .i64 j ∧ wr.heap[b]? = some (.cells #[.int .i64 n, v, .string bd] 31 (0, 0)) ∧ OwF 61 (b + 1) v acc wr ∧ W0.grownBy wr (some b) ∧ Hid (qq = match fldsA acc (ls.drop j) with | none => none | some fs => some (n, fs, bd)) ∧ acc.length = j) (fun i _ => (k + 1) - (intOf i).toNat)
  case atStart => exact ⟨0, _, [], by omega, rfl, HK0.out, World.ownsRow_nil _ _ _ _, gb_refl _ _, Lib.hid (by rw [List.drop_zero]; exact HQ.out), rfl⟩
  case round =>
    obtain ⟨j, v, acc, hj, rfl, hK, hI, hG, HQJ, haj⟩ := hrel
    have HK := Lib.hid hK
    have HI := Lib.hid hI
    have HG := Lib.hid hG
    have HAJ : Hid (acc.length = j) := haj
    have hsz : b + 1 ≤ wr.heap.size := by have := hG.size; rw [HZ0.out] at this; exact this
    obtain ⟨ai, ci, hv⟩ := own_len hI
    rw [haj] at hv
    subst hv
    clear hK hI hG haj
    have HRr : Hid (wr.heap[w.heap.size]? = some (.cells #[.int .i64 0, .slice none 0 0, .string ⟨#[]⟩] 31 (0, 0))) := (HG.out.block _ (by rw [HZ0.out]; have := HLN.out; omega) (fun e => by injection e with e; have := HLN.out; omega)).trans HR0.out
    have HBr : Hid (Below w.heap.size w wr) := HB0.out.grown HG.out HB0.out.size (fun k hk => by injection hk with e; have := HLN.out; omega)
    by_cases hlt : j < (k + 1)
    · have hjl' : j < ls.length := by rw [HLL.out]; exact hlt
      have p0 : wr.cell? ⟨g, 1 + j, none⟩ = some (.string ls[j]) := ((HLS.out.go HBr.out).2 j hjl')
      have HO := fun W => OfField_c ls[j] W (HSZ.out _ (List.getElem_mem hjl'))
      have hdr : ls.drop j = ls[j] :: ls.drop (j + 1) := List.drop_eq_getElem_cons hjl'
      have hj0 : (0 : Int) ≤ (j : Int) := by omega
      have hjl : (j : Int) < ((k + 1) : Int) := by omega
      have HQK := HQJ.out
      rw [hdr] at HQK
      clear hdr HQJ
      cases hz : ofL ls[j].data.toList with
      | none =>
        simp only [ofV_no hz] at HO
        rw [flds_no hz] at HQK
        have HO2 := Lib.hid HO
        have HQN : Hid (qq = none) := HQK
        clear HO HQK hz
        revert p0 HO2
        generalize ls[j] = ln
        intro p0 HO2
        go_wp2_with fail
        refine (HO2.out _).mono ?_
        rintro e w5 ⟨rfl, hb5⟩
        have HRX : w5.heap[w.heap.size]? = some (.cells #[.int .i64 0, .slice none 0 0, .string ⟨#[]⟩] 31 (0, 0)) := (hb5.block _ (Array.getElem?_eq_some_iff.1 HRr.out).1).trans HRr.out
        have HBX : Below w.heap.size w w5 := HBr.out.trans (hb5.mono HBr.out.size)
        have hlx : w.heap.size < w5.heap.size := (Array.getElem?_eq_some_iff.1 HRX).1
        have hnx : w.heap.size ≠ w5.heap.size := by omega
        obtain ⟨c0, c1, c2⟩ := cells3 HRX
        have z0 := frz2 HRX 0
        have z1 := frz2 HRX 1
        have z2 := frz2 HRX 2
        have HH := Lib.hid (heap_old (.cells #[.string ⟨#[]⟩, .string ⟨#[]⟩] 61) (st3 HRX (.int .i64 0) (.slice none 0 0) (.string ⟨#[]⟩)))
        have HHB : Hid (Below w.heap.size w ((((w5.setCell ⟨w.heap.size, 0, none⟩ (.int .i64 0)).setCell ⟨w.heap.size, 1, none⟩ (.slice none 0 0)).setCell ⟨w.heap.size, 2, none⟩ (.string ⟨#[]⟩)).alloc (.cells #[.string ⟨#[]⟩, .string ⟨#[]⟩] 61))) := (((HBX.setCell (p := ⟨w.heap.size, 0, none⟩) (Nat.le_refl _) _).setCell (p := ⟨w.heap.size, 1, none⟩) (Nat.le_refl _) _).setCell (p := ⟨w.heap.size, 2, none⟩) (Nat.le_refl _) _).alloc (by simp [World.setCell]; omega) _
        clear HRX HBX hb5
        go_wp2
        obtain ⟨d0, d1, d2⟩ := cells3 HH.out
        clear c0 c1 c2 z0 z1 z2
        (with_reducible refine bodyPost_ret (v := .tuple #[.agg #[.int .i64 0, .slice none 0 0, .string ⟨#[]⟩], .bool false]) (by simp [results, Tryd.results34, go_sem, d0, d1, d2]) rfl ⟨olq_no HQN.out rfl, HHB.out⟩)
      | some z =>
        simp only [ofV_yes hz] at HO
        rw [flds_yes hz] at HQK
        have HO2 := Lib.hid HO
        have HQ2 : Hid (qq = match fldsA (acc ++ [(mkS z.1, mkS z.2)]) (ls.drop (j + 1)) with | none => none | some fs => some (n, fs, bd)) := HQK
        have HSN : Hid (flB (acc ++ [(mkS z.1, mkS z.2)]) = flB acc ++ [.string (mkS z.1), .string (mkS z.2)]) := flB_snoc _ _
        have HLN2 : Hid ((acc ++ [(mkS z.1, mkS z.2)]).length = j + 1) := by show _ = _; rw [List.length_append, HAJ.out]; rfl
        clear HO HQK hz
        revert p0 HO2 HSN HQ2 HLN2
        generalize ls[j] = ln
        generalize hac : acc ++ [(mkS z.1, mkS z.2)] = acc2
        generalize mkS z.1 = ya
        generalize mkS z.2 = yb
        clear hac
        intro p0 HO2 HQ2 HSN HLN2
        go_wp2_with fail
        refine (HO2.out _).mono ?_
        rintro e w5 ⟨rfl, hb5⟩
        have hG5 : Hid (W0.grownBy w5 (some b)) := gb_trans HG.out (gb_below hb5)
        have hK5 : Hid (w5.heap[b]? = some (.cells #[.int .i64 n, .slice ai j ci, .string bd] 31 (0, 0))) := (hb5.block _ (by omega)).trans HK.out
        have hI5 : Hid (OwF 61 (b + 1) (.slice ai j ci) acc w5) := HI.out.go hb5
        have hsz5 : b + 1 ≤ w5.heap.size := Nat.le_trans hsz hb5.size
        clear hb5
        have HD : Hid (∃ W2, W2 = (w5.alloc (.cells #[.string ya, .string yb] 61)).alloc (.cells #[.string ya, .string yb] 61) ∧ W2.heap[w5.heap.size + 1]? = some (.cells #[.string ya, .string yb] 61 (0, 0)) ∧ Below w5.heap.size w5 W2) := by
          refine ⟨_, rfl, ?_, ((Below.refl w5.heap.size w5).alloc (Nat.le_refl _) _).alloc (by simp) _⟩
          have := heap_alloc_new (w5.alloc (.cells #[.string ya, .string yb] 61)) (.cells #[.string ya, .string yb] 61)
          simpa using this
        obtain ⟨W2, hW2, hk3, hbW⟩ := HD.out
        have HK3 := Lib.hid hk3
        have HW2 := Lib.hid hW2
        have HIW0 := hI5.out.go hbW
        unfold OwF at HIW0
        rw [HAJ.out] at HIW0
        have HIW := Lib.hid HIW0
        have HKW : Hid (W2.heap[b]? = some (.cells #[.int .i64 n, .slice ai j ci, .string bd] 31 (0, 0))) := (hbW.block _ (by omega)).trans hK5.out
        have HGW : Hid (W0.grownBy W2 (some b)) := gb_trans hG5.out (gb_below hbW)
        have k1 := cell_of_row _ _ 1 _ _ _ hK5.out
        have hko : b < w5.heap.size := by omega
        have hkn : b ≠ w5.heap.size := by omega
        have C1 : Hid (∀ (i : Nat) (v : Value), [Value.string ya, .string yb][i]? = some v → W2.cell? ((⟨w5.heap.size + 1, 0, none⟩ : Addr).add i) = some v) := fun i v hv => by
          have hj5 : i < 2 := by
            rcases Nat.lt_or_ge i 2 with h | h
            · exact h
            · rw [List.getElem?_eq_none (by show 2 ≤ i; exact h)] at hv; cases hv
          have ea : (⟨w5.heap.size + 1, 0, none⟩ : Addr).add i = ⟨w5.heap.size + 1, i, none⟩ := by unfold Addr.add; split <;> simp_all
          rw [ea, cell_of_row _ _ i _ _ _ HK3.out]
          match i, hj5 with
          | 0, _ => exact hv
          | 1, _ => exact hv
        have C2 : Hid (∀ u ∈ [Value.string ya, .string yb], u.oneCell' = true) := fun v hv => by simp at hv; rcases hv with rfl | rfl <;> rfl
        have C3 : Hid (j + 1 ≤ maxLen) := by show _ ≤ _; unfold maxLen; omega
        have C4 : Hid ((j + 1) * 32 ≤ 140737488355328) := by show _ ≤ _; omega
        have C5 : Hid (b + 1 ≤ W2.heap.size) := by show _ ≤ _; have := hbW.size; omega
        have hso : w5.heap.size ≤ W2.heap.size := hbW.size
        clear HD hk3 hW2 HIW0 hbW
        go_wp2_with (at_builtin; rw [← HW2.out]; refine wpList_append_own _ rfl _ _ 29 rfl (b + 1) 61 i0 _ 2 32 Tryd.underlying29 hi hz0 hz1 hz2 rfl (by decide) _ _ _ rfl HIW.out ⟨w5.heap.size + 1, 0, none⟩ 1 1 [.string ya, .string yb] rfl rfl C1.out C2.out C3.out C4.out C5.out ?_)
        intro v' w6 hown' hgrow _
        obtain ⟨ap, cq, hv'⟩ := own_len hown'
        subst hv'
        have hlo : ∀ p, (Value.slice ai j ci).ownBlock = some p → b + 1 ≤ p ∧ p < W2.heap.size := fun p hp => HIW.out.lt p hp
        have HK5 : Hid (w6.heap[b]? = some (.cells #[.int .i64 n, .slice ai j ci, .string bd] 31 (0, 0))) := (hgrow.block _ (by omega) (fun e => by have := hlo _ e.symm; omega)).trans HKW.out
        have HG5 : Hid (W0.grownBy w6 (some b)) := ⟨hgrow.os.trans HGW.out.os, hgrow.tape.trans HGW.out.tape, hgrow.output.trans HGW.out.output, Nat.le_trans HGW.out.size hgrow.size, fun p hp hr => (hgrow.block p (Nat.lt_of_lt_of_le hp HGW.out.size) (fun e => by have := hlo p e.symm; rw [HZ0.out] at hp; omega)).trans (HGW.out.block p hp hr)⟩
        have HO5 : Hid (OwF 61 (b + 1) (.slice ap (j + 1) cq) acc2 w6) := by
          show World.ownsRow _ _ _ _ _ _ _
          rw [HSN.out, HLN2.out]
          exact hown'
        have HK6 : Hid ((w6.setCell ⟨b, 1, none⟩ (.slice ap (j + 1) cq)).heap[b]? = some (.cells #[.int .i64 n, .slice ap (j + 1) cq, .string bd] 31 (0, 0))) := by
          have := blk_set HK5.out 1 (.slice ap (j + 1) cq)
          show (w6.setCell ⟨b, 1, none⟩ (.slice ap (j + 1) cq)).heap[b]? = _
          simpa using this
        have HG6 : Hid (W0.grownBy (w6.setCell ⟨b, 1, none⟩ (.slice ap (j + 1) cq)) (some b)) := gb_trans HG5.out (gb_set _ _ _ _)
        have HO6 := Lib.hid (HO5.out.gb (gb_set w6 b 1 (.slice ap (j + 1) cq)) (by omega))
        have y1 := cell_of_row _ _ 1 _ _ _ HK5.out
        have z1 := frz2 HK5.out 1
        clear hown' hgrow hlo HK5 HG5 HO5 HIW
        go_wp2
        go_roundw
        case rel => exact ⟨j + 1, (.slice ap (j + 1) cq), acc2, by omega, by go_num, HK6.out, HO6.out, HG6.out, HQ2, HLN2.out⟩
        case measure => simp [intOf]; omega
    · have hje : (k + 1) = j := by omega
      subst hje
      have HQE : Hid (qq = some (n, acc, bd)) := by
        have h := HQJ.out
        rw [List.drop_of_length_le (by rw [HLL.out]; omega), flds_nil] at h
        exact h
      obtain ⟨k0, k1, k2⟩ := cells3 HK.out
      obtain ⟨c0, c1, c2⟩ := cells3 HRr.out
      have z0 := frz2 HRr.out 0
      have z1 := frz2 HRr.out 1
      have z2 := frz2 HRr.out 2
      have HH := Lib.hid (st3 HRr.out (.int .i64 n) (.slice ai ((k + 1)) ci) (.string bd))
      have HHB : Hid (Below w.heap.size w (((wr.setCell ⟨w.heap.size, 0, none⟩ (.int .i64 n)).setCell ⟨w.heap.size, 1, none⟩ (.slice ai ((k + 1)) ci)).setCell ⟨w.heap.size, 2, none⟩ (.string bd))) := ((HBr.out.setCell (p := ⟨w.heap.size, 0, none⟩) (Nat.le_refl _) _).setCell (p := ⟨w.heap.size, 1, none⟩) (Nat.le_refl _) _).setCell (p := ⟨w.heap.size, 2, none⟩) (Nat.le_refl _) _
      have HGS := Lib.hid (gb_trans (gb_trans (gb_set wr (w.heap.size) 0 (.int .i64 n)) (gb_set _ (w.heap.size) 1 (.slice ai ((k + 1)) ci))) (gb_set _ (w.heap.size) 2 (.string bd)))
      have HOS : Hid (OwF 61 w.heap.size (.slice ai acc.length ci) acc (((wr.setCell ⟨w.heap.size, 0, none⟩ (.int .i64 n)).setCell ⟨w.heap.size, 1, none⟩ (.slice ai ((k + 1)) ci)).setCell ⟨w.heap.size, 2, none⟩ (.string bd))) := by
        have h := OwF.mono (B' := w.heap.size) (HI.out.gb HGS.out (by have := HLN.out; omega)) (by have := HLN.out; omega)
        rw [← HAJ.out] at h ⊢
        exact h
      have HEQ : Hid (Value.agg #[.int .i64 n, (.slice ai ((k + 1)) ci), .string bd] = .agg #[.int .i64 n, .slice ai acc.length ci, .string bd]) := by show _ = _; rw [HAJ.out]
      go_wp2
      obtain ⟨d0, d1, d2⟩ := cells3 HH.out
      clear c0 c1 c2 z0 z1 z2 k0 k1 k2
      (with_reducible refine bodyPost_ret (v := .tuple #[.agg #[.int .i64 n, (.slice ai ((k + 1)) ci), .string bd], .bool true]) (by simp [results, Tryd.results34, go_sem, d0, d1, d2]) rfl ⟨olq_yes HQE.out (by rw [HEQ.out]) HOS.out, HHB.out⟩)
set_option maxRecDepth 100000 in
set_option maxHeartbeats 8000000 in
theorem ol_zero (p : ByteArray) (g k : Nat) (ls : List ByteArray) (body rest dg r2 bd : ByteArray) (fd : Bool) (n : Int) (qq : Option (Int × List FB × ByteArray)) (w : World) (h0 : w.cell? ⟨g, 0, none⟩ = some (.string p)) (hg : g < w.heap.size) (hk : k ≤ 1000000)
    (HLS : Hid (LnS g 1 ls w)) (hls : ls.length = 0) (HSZ : Hid (∀ l ∈ ls, l.size ≤ 5000000))
    (HQ : Hid (qq = match fldsA [] ls with | none => none | some fs => some (n, fs, bd)))
    (HP : Hid (∀ W, Calls Tryd.prog 49 #[.string p, .string ⟨#[72, 84, 84, 80, 47, 49, 46, 49, 32]⟩] W fun e w' => e = .returned (.tuple #[.string rest, .bool true]) ∧ w' = W))
    (HC : Hid (∀ W, Calls Tryd.prog 31 #[.string rest, .string ⟨#[32]⟩] W fun e w' => e = .returned (.tuple #[.string dg, .string r2, .bool fd]) ∧ ∃ n, w' = W.drewN n))
    (HS : Hid (∀ W, Calls Tryd.prog 48 #[.string dg] W fun e w' => e = .returned (.tuple #[.int .i64 n, .int .i64 0]) ∧ W = w'))
    (HOF : Hid (∀ W, Calls Tryd.prog 18 #[.int .i64 n, .string body] W fun e w' => e = .returned (.agg #[.int .i64 n, .slice none 0 0, .string bd]) ∧ Below W.heap.size W w'))
    (HB : Hid (∀ W, Calls Tryd.prog 22 #[.int .i64 n] W fun e w' => e = .returned (.bool false) ∧ W = w')) :
    Calls Tryd.prog 34 #[.slice (some ⟨g, 0, none⟩) (0 + 1) (0 + 1), .string body] w fun e w' => OlQ w.heap.size qq e w' ∧ Below w.heap.size w w' := by
  obtain ⟨i0, hi, hz0, hz1, hz2⟩ := info_parts infoF
  have HZ := Lib.hid (Zr.new w)
  have hn : g ≠ w.heap.size := by omega
  have HGL : Hid (g < w.heap.size) := hg
  have HLL : Hid (ls.length = 0) := hls
  clear hls
  go_enter Tryd.func34, Tryd.ntmps34
  go_wp2_with fail
  refine (HP.out _).mono ?_
  rintro e w1 ⟨rfl, hw⟩
  rw [hw]; clear hw
  go_wp2_with fail
  refine (HC.out _).mono ?_
  rintro e w2 ⟨rfl, nd, hw⟩
  have HZ2 : Hid (Zr w w2) := by show Zr w w2; rw [hw]; exact HZ.out.go (bel_drewN _ _)
  clear hw HZ
  go_wp2_with fail
  refine (HS.out _).mono ?_
  rintro e w3 ⟨rfl, hw⟩
  rw [← hw]; clear hw
  go_wp2_with fail
  refine (HOF.out _).mono ?_
  rintro e w3 ⟨rfl, hb3⟩
  obtain ⟨W0, hW0, HR0, HK0, HB0, HZ0, HLN⟩ : ∃ W0, W0 = w3.alloc (.cells #[.int .i64 n, .slice none 0 0, .string bd] 31) ∧ Hid (W0.heap[w.heap.size]? = some (.cells #[.int .i64 0, .slice none 0 0, .string ⟨#[]⟩] 31 (0, 0))) ∧ Hid (W0.heap[w3.heap.size]? = some (.cells #[.int .i64 n, .slice none 0 0, .string bd] 31 (0, 0))) ∧ Hid (Below w.heap.size w W0) ∧ Hid (W0.heap.size = w3.heap.size + 1) ∧ Hid (w.heap.size < w3.heap.size) :=
    ⟨_, rfl, ((HZ2.out.go hb3).go ((Below.refl _ _).alloc (Nat.le_refl _) _)).2, heap_alloc_new w3 _, ((HZ2.out.go hb3).go ((Below.refl _ _).alloc (Nat.le_refl _) _)).1, by show _ = _; simp, (HZ2.out.go hb3).lt⟩
  have HWE := Lib.hid hW0
  clear hW0 hb3 HZ2
  go_wp2_with (first
    | (go_at_call 22; refine (HB.out _).mono ?_; rintro e w6 ⟨rfl, hw⟩; rw [← hw]; clear hw))
  rw [← HWE.out]
  clear HWE
  generalize w3.heap.size = b at HK0 HZ0 HLN ⊢
  go_loopw [59] (fun i wr => ∃ (j : Nat) (v : Value) (acc : List FB), j ≤ 0 ∧ i = .int .i64 j ∧ wr.heap[b]? = some (.cells #[.int .i64 n, v, .string bd] 31 (0, 0)) ∧ OwF 61 (b + 1) v acc wr ∧ W0.grownBy wr (some b) ∧ Hid (qq = match fldsA acc (ls.drop j) with | none => none | some fs => some (n, fs, bd)) ∧ acc.length = j) (fun i _ => 0 - (intOf i).toNat)
  case atStart => exact ⟨0, _, [], by omega, rfl, HK0.out, World.ownsRow_nil _ _ _ _, gb_refl _ _, Lib.hid (by rw [List.drop_zero]; exact HQ.out), rfl⟩
  case round =>
    obtain ⟨j, v, acc, hj, rfl, hK, hI, hG, HQJ, haj⟩ := hrel
    have HK := Lib.hid hK
    have HI := Lib.hid hI
    have HG := Lib.hid hG
    have HAJ : Hid (acc.length = j) := haj
    have hsz : b + 1 ≤ wr.heap.size := by have := hG.size; rw [HZ0.out] at this; exact this
    obtain ⟨ai, ci, hv⟩ := own_len hI
    rw [haj] at hv
    subst hv
    clear hK hI hG haj
    have HRr : Hid (wr.heap[w.heap.size]? = some (.cells #[.int .i64 0, .slice none 0 0, .string ⟨#[]⟩] 31 (0, 0))) := (HG.out.block _ (by rw [HZ0.out]; have := HLN.out; omega) (fun e => by injection e with e; have := HLN.out; omega)).trans HR0.out
    have HBr : Hid (Below w.heap.size w wr) := HB0.out.grown HG.out HB0.out.size (fun k hk => by injection hk with e; have := HLN.out; omega)
    by_cases hlt : j < 0
    · exact absurd hlt (Nat.not_lt_zero _)
    · have hje : 0 = j := by omega
      subst hje
      have HQE : Hid (qq = some (n, acc, bd)) := by
        have h := HQJ.out
        rw [List.drop_of_length_le (by rw [HLL.out]; omega), flds_nil] at h
        exact h
      obtain ⟨k0, k1, k2⟩ := cells3 HK.out
      obtain ⟨c0, c1, c2⟩ := cells3 HRr.out
      have z0 := frz2 HRr.out 0
      have z1 := frz2 HRr.out 1
      have z2 := frz2 HRr.out 2
      have HH := Lib.hid (st3 HRr.out (.int .i64 n) (.slice ai (0) ci) (.string bd))
      have HHB : Hid (Below w.heap.size w (((wr.setCell ⟨w.heap.size, 0, none⟩ (.int .i64 n)).setCell ⟨w.heap.size, 1, none⟩ (.slice ai (0) ci)).setCell ⟨w.heap.size, 2, none⟩ (.string bd))) := ((HBr.out.setCell (p := ⟨w.heap.size, 0, none⟩) (Nat.le_refl _) _).setCell (p := ⟨w.heap.size, 1, none⟩) (Nat.le_refl _) _).setCell (p := ⟨w.heap.size, 2, none⟩) (Nat.le_refl _) _
      have HGS := Lib.hid (gb_trans (gb_trans (gb_set wr (w.heap.size) 0 (.int .i64 n)) (gb_set _ (w.heap.size) 1 (.slice ai (0) ci))) (gb_set _ (w.heap.size) 2 (.string bd)))
      have HOS : Hid (OwF 61 w.heap.size (.slice ai acc.length ci) acc (((wr.setCell ⟨w.heap.size, 0, none⟩ (.int .i64 n)).setCell ⟨w.heap.size, 1, none⟩ (.slice ai (0) ci)).setCell ⟨w.heap.size, 2, none⟩ (.string bd))) := by
        have h := OwF.mono (B' := w.heap.size) (HI.out.gb HGS.out (by have := HLN.out; omega)) (by have := HLN.out; omega)
        rw [← HAJ.out] at h ⊢
        exact h
      have HEQ : Hid (Value.agg #[.int .i64 n, (.slice ai (0) ci), .string bd] = .agg #[.int .i64 n, .slice ai acc.length ci, .string bd]) := by show _ = _; rw [HAJ.out]
      go_wp2
      obtain ⟨d0, d1, d2⟩ := cells3 HH.out
      clear c0 c1 c2 z0 z1 z2 k0 k1 k2
      (with_reducible refine bodyPost_ret (v := .tuple #[.agg #[.int .i64 n, (.slice ai (0) ci), .string bd], .bool true]) (by simp [results, Tryd.results34, go_sem, d0, d1, d2]) rfl ⟨olq_yes HQE.out (by rw [HEQ.out]) HOS.out, HHB.out⟩)
set_option maxRecDepth 100000 in
set_option maxHeartbeats 8000000 in
theorem ol_more (p : ByteArray) (g k : Nat) (ls : List ByteArray) (body rest dg r2 bd : ByteArray) (fd : Bool) (n : Int) (qq : Option (Int × List FB × ByteArray)) (w : World) (h0 : w.cell? ⟨g, 0, none⟩ = some (.string p)) (hg : g < w.heap.size) (hk : k ≤ 1000000)
    (HLS : Hid (LnS g 1 ls w)) (hls : ls.length = k) (HSZ : Hid (∀ l ∈ ls, l.size ≤ 5000000))
    (HQ : Hid (qq = match fldsA [] ls with | none => none | some fs => some (n, fs, bd)))
    (HP : Hid (∀ W, Calls Tryd.prog 49 #[.string p, .string ⟨#[72, 84, 84, 80, 47, 49, 46, 49, 32]⟩] W fun e w' => e = .returned (.tuple #[.string rest, .bool true]) ∧ w' = W))
    (HC : Hid (∀ W, Calls Tryd.prog 31 #[.string rest, .string ⟨#[32]⟩] W fun e w' => e = .returned (.tuple #[.string dg, .string r2, .bool fd]) ∧ ∃ n, w' = W.drewN n))
    (HS : Hid (∀ W, Calls Tryd.prog 48 #[.string dg] W fun e w' => e = .returned (.tuple #[.int .i64 n, .int .i64 0]) ∧ W = w'))
    (HOF : Hid (∀ W, Calls Tryd.prog 18 #[.int .i64 n, .string body] W fun e w' => e = .returned (.agg #[.int .i64 n, .slice none 0 0, .string bd]) ∧ Below W.heap.size W w'))
    (HB : Hid (∀ W, Calls Tryd.prog 22 #[.int .i64 n] W fun e w' => e = .returned (.bool false) ∧ W = w')) :
    Calls Tryd.prog 34 #[.slice (some ⟨g, 0, none⟩) ((k + 1) + 1) ((k + 1) + 1), .string body] w fun e w' => OlQ w.heap.size qq e w' ∧ Below w.heap.size w w' := by
  obtain ⟨i0, hi, hz0, hz1, hz2⟩ := info_parts infoF
  have HZ := Lib.hid (Zr.new w)
  have hn : g ≠ w.heap.size := by omega
  have HGL : Hid (g < w.heap.size) := hg
  have HLL : Hid (ls.length = k) := hls
  clear hls
  go_enter Tryd.func34, Tryd.ntmps34
  go_wp2_with fail
  refine (HP.out _).mono ?_
  rintro e w1 ⟨rfl, hw⟩
  rw [hw]; clear hw
  go_wp2_with fail
  refine (HC.out _).mono ?_
  rintro e w2 ⟨rfl, nd, hw⟩
  have HZ2 : Hid (Zr w w2) := by show Zr w w2; rw [hw]; exact HZ.out.go (bel_drewN _ _)
  clear hw HZ
  go_wp2_with fail
  refine (HS.out _).mono ?_
  rintro e w3 ⟨rfl, hw⟩
  rw [← hw]; clear hw
  go_wp2_with fail
  refine (HOF.out _).mono ?_
  rintro e w3 ⟨rfl, hb3⟩
  obtain ⟨W0, hW0, HR0, HK0, HB0, HZ0, HLN⟩ : ∃ W0, W0 = w3.alloc (.cells #[.int .i64 n, .slice none 0 0, .string bd] 31) ∧ Hid (W0.heap[w.heap.size]? = some (.cells #[.int .i64 0, .slice none 0 0, .string ⟨#[]⟩] 31 (0, 0))) ∧ Hid (W0.heap[w3.heap.size]? = some (.cells #[.int .i64 n, .slice none 0 0, .string bd] 31 (0, 0))) ∧ Hid (Below w.heap.size w W0) ∧ Hid (W0.heap.size = w3.heap.size + 1) ∧ Hid (w.heap.size < w3.heap.size) :=
    ⟨_, rfl, ((HZ2.out.go hb3).go ((Below.refl _ _).alloc (Nat.le_refl _) _)).2, heap_alloc_new w3 _, ((HZ2.out.go hb3).go ((Below.refl _ _).alloc (Nat.le_refl _) _)).1, by show _ = _; simp, (HZ2.out.go hb3).lt⟩
  have HWE := Lib.hid hW0
  clear hW0 hb3 HZ2
  go_wp2_with (first
    | (go_at_call 22; refine (HB.out _).mono ?_; rintro e w6 ⟨rfl, hw⟩; rw [← hw]; clear hw))
  rw [← HWE.out]
  clear HWE
  generalize w3.heap.size = b at HK0 HZ0 HLN ⊢
  go_loopw [59] (fun i wr => ∃ (j : Nat) (v : Value) (acc : List FB), j ≤ k ∧ i = .int .i64 j ∧ wr.heap[b]? = some (.cells #[.int .i64 n, v, .string bd] 31 (0, 0)) ∧ OwF 61 (b + 1) v acc wr ∧ W0.grownBy wr (some b) ∧ Hid (qq = match fldsA acc (ls.drop j) with | none => none | some fs => some (n, fs, bd)) ∧ acc.length = j) (fun i _ => k - (intOf i).toNat)
  case atStart => exact ⟨0, _, [], by omega, rfl, HK0.out, World.ownsRow_nil _ _ _ _, gb_refl _ _, Lib.hid (by rw [List.drop_zero]; exact HQ.out), rfl⟩
  case round =>
    obtain ⟨j, v, acc, hj, rfl, hK, hI, hG, HQJ, haj⟩ := hrel
    have HK := Lib.hid hK
    have HI := Lib.hid hI
    have HG := Lib.hid hG
    have HAJ : Hid (acc.length = j) := haj
    have hsz : b + 1 ≤ wr.heap.size := by have := hG.size; rw [HZ0.out] at this; exact this
    obtain ⟨ai, ci, hv⟩ := own_len hI
    rw [haj] at hv
    subst hv
    clear hK hI hG haj
    have HRr : Hid (wr.heap[w.heap.size]? = some (.cells #[.int .i64 0, .slice none 0 0, .string ⟨#[]⟩] 31 (0, 0))) := (HG.out.block _ (by rw [HZ0.out]; have := HLN.out; omega) (fun e => by injection e with e; have := HLN.out; omega)).trans HR0.out
    have HBr : Hid (Below w.heap.size w wr) := HB0.out.grown HG.out HB0.out.size (fun k hk => by injection hk with e; have := HLN.out; omega)
    by_cases hlt : j < k
    · have hjl' : j < ls.length := by rw [HLL.out]; exact hlt
      have p0 : wr.cell? ⟨g, 1 + j, none⟩ = some (.string ls[j]) := ((HLS.out.go HBr.out).2 j hjl')
      have HO := fun W => OfField_c ls[j] W (HSZ.out _ (List.getElem_mem hjl'))
      have hdr : ls.drop j = ls[j] :: ls.drop (j + 1) := List.drop_eq_getElem_cons hjl'
      have hj0 : (0 : Int) ≤ (j : Int) := by omega
      have hjl : (j : Int) < (k : Int) := by omega
      have HQK := HQJ.out
      rw [hdr] at HQK
      clear hdr HQJ
      cases hz : ofL ls[j].data.toList with
      | none =>
        simp only [ofV_no hz] at HO
        rw [flds_no hz] at HQK
        have HO2 := Lib.hid HO
        have HQN : Hid (qq = none) := HQK
        clear HO HQK hz
        revert p0 HO2
        generalize ls[j] = ln
        intro p0 HO2
        go_wp2_with fail
        refine (HO2.out _).mono ?_
        rintro e w5 ⟨rfl, hb5⟩
        have HRX : w5.heap[w.heap.size]? = some (.cells #[.int .i64 0, .slice none 0 0, .string ⟨#[]⟩] 31 (0, 0)) := (hb5.block _ (Array.getElem?_eq_some_iff.1 HRr.out).1).trans HRr.out
        have HBX : Below w.heap.size w w5 := HBr.out.trans (hb5.mono HBr.out.size)
        have hlx : w.heap.size < w5.heap.size := (Array.getElem?_eq_some_iff.1 HRX).1
        have hnx : w.heap.size ≠ w5.heap.size := by omega
        obtain ⟨c0, c1, c2⟩ := cells3 HRX
        have z0 := frz2 HRX 0
        have z1 := frz2 HRX 1
        have z2 := frz2 HRX 2
        have HH := Lib.hid (heap_old (.cells #[.string ⟨#[]⟩, .string ⟨#[]⟩] 61) (st3 HRX (.int .i64 0) (.slice none 0 0) (.string ⟨#[]⟩)))
        have HHB : Hid (Below w.heap.size w ((((w5.setCell ⟨w.heap.size, 0, none⟩ (.int .i64 0)).setCell ⟨w.heap.size, 1, none⟩ (.slice none 0 0)).setCell ⟨w.heap.size, 2, none⟩ (.string ⟨#[]⟩)).alloc (.cells #[.string ⟨#[]⟩, .string ⟨#[]⟩] 61))) := (((HBX.setCell (p := ⟨w.heap.size, 0, none⟩) (Nat.le_refl _) _).setCell (p := ⟨w.heap.size, 1, none⟩) (Nat.le_refl _) _).setCell (p := ⟨w.heap.size, 2, none⟩) (Nat.le_refl _) _).alloc (by simp [World.setCell]; omega) _
        clear HRX HBX hb5
        go_wp2
        obtain ⟨d0, d1, d2⟩ := cells3 HH.out
        clear c0 c1 c2 z0 z1 z2
        (with_reducible refine bodyPost_ret (v := .tuple #[.agg #[.int .i64 0, .slice none 0 0, .string ⟨#[]⟩], .bool false]) (by simp [results, Tryd.results34, go_sem, d0, d1, d2]) rfl ⟨olq_no HQN.out rfl, HHB.out⟩)
      | some z =>
        simp only [ofV_yes hz] at HO
        rw [flds_yes hz] at HQK
        have HO2 := Lib.hid HO
        have HQ2 : Hid (qq = match fldsA (acc ++ [(mkS z.1, mkS z.2)]) (ls.drop (j + 1)) with | none => none | some fs => some (n, fs, bd)) := HQK
        have HSN : Hid (flB (acc ++ [(mkS z.1, mkS z.2)]) = flB acc ++ [.string (mkS z.1), .string (mkS z.2)]) := flB_snoc _ _
        have HLN2 : Hid ((acc ++ [(mkS z.1, mkS z.2)]).length = j + 1) := by show _ = _; rw [List.length_append, HAJ.out]; rfl
        clear HO HQK hz
        revert p0 HO2 HSN HQ2 HLN2
        generalize ls[j] = ln
        generalize hac : acc ++ [(mkS z.1, mkS z.2)] = acc2
        generalize mkS z.1 = ya
        generalize mkS z.2 = yb
        clear hac
        intro p0 HO2 HQ2 HSN HLN2
        go_wp2_with fail
        refine (HO2.out _).mono ?_
        rintro e w5 ⟨rfl, hb5⟩
        have hG5 : Hid (W0.grownBy w5 (some b)) := gb_trans HG.out (gb_below hb5)
        have hK5 : Hid (w5.heap[b]? = some (.cells #[.int .i64 n, .slice ai j ci, .string bd] 31 (0, 0))) := (hb5.block _ (by omega)).trans HK.out
        have hI5 : Hid (OwF 61 (b + 1) (.slice ai j ci) acc w5) := HI.out.go hb5
        have hsz5 : b + 1 ≤ w5.heap.size := Nat.le_trans hsz hb5.size
        clear hb5
        have HD : Hid (∃ W2, W2 = (w5.alloc (.cells #[.string ya, .string yb] 61)).alloc (.cells #[.string ya, .string yb] 61) ∧ W2.heap[w5.heap.size + 1]? = some (.cells #[.string ya, .string yb] 61 (0, 0)) ∧ Below w5.heap.size w5 W2) := by
          refine ⟨_, rfl, ?_, ((Below.refl w5.heap.size w5).alloc (Nat.le_refl _) _).alloc (by simp) _⟩
          have := heap_alloc_new (w5.alloc (.cells #[.string ya, .string yb] 61)) (.cells #[.string ya, .string yb] 61)
          simpa using this
        obtain ⟨W2, hW2, hk3, hbW⟩ := HD.out
        have HK3 := Lib.hid hk3
        have HW2 := Lib.hid hW2
        have HIW0 := hI5.out.go hbW
        unfold OwF at HIW0
        rw [HAJ.out] at HIW0
        have HIW := Lib.hid HIW0
        have HKW : Hid (W2.heap[b]? = some (.cells #[.int .i64 n, .slice ai j ci, .string bd] 31 (0, 0))) := (hbW.block _ (by omega)).trans hK5.out
        have HGW : Hid (W0.grownBy W2 (some b)) := gb_trans hG5.out (gb_below hbW)
        have k1 := cell_of_row _ _ 1 _ _ _ hK5.out
        have hko : b < w5.heap.size := by omega
        have hkn : b ≠ w5.heap.size := by omega
        have C1 : Hid (∀ (i : Nat) (v : Value), [Value.string ya, .string yb][i]? = some v → W2.cell? ((⟨w5.heap.size + 1, 0, none⟩ : Addr).add i) = some v) := fun i v hv => by
          have hj5 : i < 2 := by
            rcases Nat.lt_or_ge i 2 with h | h
            · exact h
            · rw [List.getElem?_eq_none (by show 2 ≤ i; exact h)] at hv; cases hv
          have ea : (⟨w5.heap.size + 1, 0, none⟩ : Addr).add i = ⟨w5.heap.size + 1, i, none⟩ := by unfold Addr.add; split <;> simp_all
          rw [ea, cell_of_row _ _ i _ _ _ HK3.out]
          match i, hj5 with
          | 0, _ => exact hv
          | 1, _ => exact hv
        have C2 : Hid (∀ u ∈ [Value.string ya, .string yb], u.oneCell' = true) := fun v hv => by simp at hv; rcases hv with rfl | rfl <;> rfl
        have C3 : Hid (j + 1 ≤ maxLen) := by show _ ≤ _; unfold maxLen; omega
        have C4 : Hid ((j + 1) * 32 ≤ 140737488355328) := by show _ ≤ _; omega
        have C5 : Hid (b + 1 ≤ W2.heap.size) := by show _ ≤ _; have := hbW.size; omega
        have hso : w5.heap.size ≤ W2.heap.size := hbW.size
        clear HD hk3 hW2 HIW0 hbW
        go_wp2_with (at_builtin; rw [← HW2.out]; refine wpList_append_own _ rfl _ _ 29 rfl (b + 1) 61 i0 _ 2 32 Tryd.underlying29 hi hz0 hz1 hz2 rfl (by decide) _ _ _ rfl HIW.out ⟨w5.heap.size + 1, 0, none⟩ 1 1 [.string ya, .string yb] rfl rfl C1.out C2.out C3.out C4.out C5.out ?_)
        intro v' w6 hown' hgrow _
        obtain ⟨ap, cq, hv'⟩ := own_len hown'
        subst hv'
        have hlo : ∀ p, (Value.slice ai j ci).ownBlock = some p → b + 1 ≤ p ∧ p < W2.heap.size := fun p hp => HIW.out.lt p hp
        have HK5 : Hid (w6.heap[b]? = some (.cells #[.int .i64 n, .slice ai j ci, .string bd] 31 (0, 0))) := (hgrow.block _ (by omega) (fun e => by have := hlo _ e.symm; omega)).trans HKW.out
        have HG5 : Hid (W0.grownBy w6 (some b)) := ⟨hgrow.os.trans HGW.out.os, hgrow.tape.trans HGW.out.tape, hgrow.output.trans HGW.out.output, Nat.le_trans HGW.out.size hgrow.size, fun p hp hr => (hgrow.block p (Nat.lt_of_lt_of_le hp HGW.out.size) (fun e => by have := hlo p e.symm; rw [HZ0.out] at hp; omega)).trans (HGW.out.block p hp hr)⟩
        have HO5 : Hid (OwF 61 (b + 1) (.slice ap (j + 1) cq) acc2 w6) := by
          show World.ownsRow _ _ _ _ _ _ _
          rw [HSN.out, HLN2.out]
          exact hown'
        have HK6 : Hid ((w6.setCell ⟨b, 1, none⟩ (.slice ap (j + 1) cq)).heap[b]? = some (.cells #[.int .i64 n, .slice ap (j + 1) cq, .string bd] 31 (0, 0))) := by
          have := blk_set HK5.out 1 (.slice ap (j + 1) cq)
          show (w6.setCell ⟨b, 1, none⟩ (.slice ap (j + 1) cq)).heap[b]? = _
          simpa using this
        have HG6 : Hid (W0.grownBy (w6.setCell ⟨b, 1, none⟩ (.slice ap (j + 1) cq)) (some b)) := gb_trans HG5.out (gb_set _ _ _ _)
        have HO6 := Lib.hid (HO5.out.gb (gb_set w6 b 1 (.slice ap (j + 1) cq)) (by omega))
        have y1 := cell_of_row _ _ 1 _ _ _ HK5.out
        have z1 := frz2 HK5.out 1
        clear hown' hgrow hlo HK5 HG5 HO5 HIW
        go_wp2
        go_roundw
        case rel => exact ⟨j + 1, (.slice ap (j + 1) cq), acc2, by omega, by go_num, HK6.out, HO6.out, HG6.out, HQ2, HLN2.out⟩
        case measure => simp [intOf]; omega
    · have hje : k = j := by omega
      subst hje
      have HQE : Hid (qq = some (n, acc, bd)) := by
        have h := HQJ.out
        rw [List.drop_of_length_le (by rw [HLL.out]; omega), flds_nil] at h
        exact h
      obtain ⟨k0, k1, k2⟩ := cells3 HK.out
      obtain ⟨c0, c1, c2⟩ := cells3 HRr.out
      have z0 := frz2 HRr.out 0
      have z1 := frz2 HRr.out 1
      have z2 := frz2 HRr.out 2
      have HH := Lib.hid (st3 HRr.out (.int .i64 n) (.slice ai (k) ci) (.string bd))
      have HHB : Hid (Below w.heap.size w (((wr.setCell ⟨w.heap.size, 0, none⟩ (.int .i64 n)).setCell ⟨w.heap.size, 1, none⟩ (.slice ai (k) ci)).setCell ⟨w.heap.size, 2, none⟩ (.string bd))) := ((HBr.out.setCell (p := ⟨w.heap.size, 0, none⟩) (Nat.le_refl _) _).setCell (p := ⟨w.heap.size, 1, none⟩) (Nat.le_refl _) _).setCell (p := ⟨w.heap.size, 2, none⟩) (Nat.le_refl _) _
      have HGS := Lib.hid (gb_trans (gb_trans (gb_set wr (w.heap.size) 0 (.int .i64 n)) (gb_set _ (w.heap.size) 1 (.slice ai (k) ci))) (gb_set _ (w.heap.size) 2 (.string bd)))
      have HOS : Hid (OwF 61 w.heap.size (.slice ai acc.length ci) acc (((wr.setCell ⟨w.heap.size, 0, none⟩ (.int .i64 n)).setCell ⟨w.heap.size, 1, none⟩ (.slice ai (k) ci)).setCell ⟨w.heap.size, 2, none⟩ (.string bd))) := by
        have h := OwF.mono (B' := w.heap.size) (HI.out.gb HGS.out (by have := HLN.out; omega)) (by have := HLN.out; omega)
        rw [← HAJ.out] at h ⊢
        exact h
      have HEQ : Hid (Value.agg #[.int .i64 n, (.slice ai (k) ci), .string bd] = .agg #[.int .i64 n, .slice ai acc.length ci, .string bd]) := by show _ = _; rw [HAJ.out]
      go_wp2
      obtain ⟨d0, d1, d2⟩ := cells3 HH.out
      clear c0 c1 c2 z0 z1 z2 k0 k1 k2
      (with_reducible refine bodyPost_ret (v := .tuple #[.agg #[.int .i64 n, (.slice ai (k) ci), .string bd], .bool true]) (by simp [results, Tryd.results34, go_sem, d0, d1, d2]) rfl ⟨olq_yes HQE.out (by rw [HEQ.out]) HOS.out, HHB.out⟩)
end Go.Proofs.YtolfenachbbjdaaDoor.Rp

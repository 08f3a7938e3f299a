/- Contracts and plain mathematics of some packages' functions, laid together; conditions as each one says. -/
import Derived.Test.YtpgllcdcpdeicaaGreatDoorJvGe
namespace Go.Proofs.YtpgllcdcpdeicaaGreatDoor.Jv
open Jt
open Go.RowKit Go.ChangeMaps Go.MapKept Go.WideMaps
set_option linter.unusedSimpArgs false
set_option linter.unusedVariables false

/-- what the loop carries -/
structure LI (o : Bool) (g mb B F : Nat) (s : ByteArray) (room : Int) (R : Except Er (JV × Nat)) (f : Nat) (ks : List (List UInt8)) (xs : List JV) (t : Tok) (w V : World) : Prop where
  eq : pl s.data.toList (f + 1) o room ks xs t = R
  fu : f < F
  tk : t.b ≤ s.size ∧ t.a ≤ s.size ∧ t.t.length ≤ 4 * (s.size + 1) ∧ 2 * (s.size - t.b) + 1 ≤ f
  xl : xs.length ≤ t.b
  kx : o = true → ks.length = xs.length
  kn : o = false → ks = []
  pl : PL o g mb B s room ks xs t.b (obT (t.k : Int) (t.a : Int) (t.b : Int) (mkS t.t) t.n) w V
theorem LI.er {o : Bool} {g mb B F : Nat} {s : ByteArray} {room : Int} {R : Except Er (JV × Nat)} {f : Nat} {ks : List (List UInt8)} {xs : List JV} {t : Tok} {w V : World} (h : LI o g mb B F s room R f ks xs t w V) {e : Er} (hx : itP s.data.toList f o room ks t = .error e) : R = .error e := by
  rw [← h.eq, pl_step, hx]
theorem LI.er2 {o : Bool} {g mb B F : Nat} {s : ByteArray} {room : Int} {R : Except Er (JV × Nat)} {f : Nat} {ks : List (List UInt8)} {xs : List JV} {t : Tok} {w V : World} (h : LI o g mb B F s room R f ks xs t w V) {r : List (List UInt8) × JV × Nat} (hx : itP s.data.toList f o room ks t = .ok r) {e : Er} (hb : bhP s.data.toList o r.2.2 = .error e) : R = .error e := by
  rw [← h.eq, pl_step, hx]; dsimp only; rw [hb]
theorem LI.end {o : Bool} {g mb B F : Nat} {s : ByteArray} {room : Int} {R : Except Er (JV × Nat)} {f : Nat} {ks : List (List UInt8)} {xs : List JV} {t : Tok} {w V : World} (h : LI o g mb B F s room R f ks xs t w V) {r : List (List UInt8) × JV × Nat} (hx : itP s.data.toList f o room ks t = .ok r) {b : Nat} (hb : bhP s.data.toList o r.2.2 = .ok (.inl b)) : R = .ok (.mk (kndV o) false 0 [] (xs ++ [r.2.1]) r.1, b) := by
  rw [← h.eq, pl_step, hx]; dsimp only; rw [hb]
theorem LI.next {o : Bool} {g mb B F : Nat} {s : ByteArray} {room : Int} {R : Except Er (JV × Nat)} {f : Nat} {ks : List (List UInt8)} {xs : List JV} {t : Tok} {w V V' : World} (h : LI o g mb B F s room R f ks xs t w V) {r : List (List UInt8) × JV × Nat} (hx : itP s.data.toList f o room ks t = .ok r) {t' : Tok} (hb : bhP s.data.toList o r.2.2 = .ok (.inr t'))
    (hp : PL o g mb B s room r.1 (xs ++ [r.2.1]) t'.b (obT (t'.k : Int) (t'.a : Int) (t'.b : Int) (mkS t'.t) t'.n) w V') : ∃ f', LI o g mb B F s room R f' r.1 (xs ++ [r.2.1]) t' w V' ∧ t.b < t'.b := by
  have hl := size_l s
  obtain ⟨k1, k2, k3, k4⟩ := h.tk
  obtain ⟨i1, i2, i3, i4⟩ := itP_ok (by omega) hx
  obtain ⟨b1, b2, b3, b4⟩ := bhP_ok4 i2 hb
  rw [← hl] at b2 b3 b4 i2
  obtain ⟨f', rfl⟩ : ∃ f', f = f' + 1 := ⟨f - 1, by omega⟩
  have := h.fu
  have := h.xl
  refine ⟨f', ⟨?_, by omega, ⟨b2, b3, b4, by omega⟩, by rw [List.length_append]; simp; omega, fun e => by rw [i3 e, h.kx e, List.length_append]; rfl, fun e => by rw [i4 e]; exact h.kn e, hp⟩, by omega⟩
  rw [← h.eq, pl_step (f := f' + 1), hx]; dsimp only; rw [hb]
set_option maxRecDepth 100000 in
set_option maxHeartbeats 200000 in
theorem c6_agg (k : Int) (b : Bool) (n : Int) (tx : ByteArray) (ao : Option Addr) (l1 q1 : Nat) (ap : Option Addr) (l2 q2 : Nat) : (c6 k b n tx ao l1 q1 ap l2 q2).toArray = #[.int .i64 k, .bool b, .int .i64 n, .string tx, .slice ao l1 q1, .slice ap l2 q2] := rfl
theorem fin_er {g : Nat} {s : ByteArray} {R : Except Er (JV × Nat)} {r : Er} {w V V' : World} (hR : R = .error r) (hg : Grw (fun j => j = g ∨ w.heap.size ≤ j) w V) (hrd : ∃ a, a ≤ s.size ∧ Rd g s a V) (hgl : g < w.heap.size) (hZ : Grw (fun j => j = w.heap.size + 1) V V') : ValQ g s R w (.returned (.tuple #[zVl, fauV r])) V' := by
  subst hR
  obtain ⟨a, ha, hr⟩ := hrd
  exact ⟨gb_of_grw (hg.trans hZ (fun j _ e => .inr (by omega))) (fun j hj e => by omega), rfl, a, ha, (hZ.block hr.lt (by omega)).trans hr⟩
theorem fin_ok {o : Bool} {g mb B p : Nat} {s : ByteArray} {room : Int} {ks : List (List UInt8)} {xs : List JV} {O : Obj} {R : Except Er (JV × Nat)} {w V V' : World} (hR : R = .ok (.mk (kndV o) false 0 [] xs ks, p)) (hp : Pos o g mb B w.heap.size) (h : PL o g mb B s room ks xs p O w V) {ao : Option Addr} {l1 q1 : Nat} {ap : Option Addr} {l2 q2 : Nat} (hrep : Rep (fun k => B ≤ k) V (.mk (kndV o) false 0 [] xs ks) (c6 (kndV o) false 0 ⟨#[]⟩ ao l1 q1 ap l2 q2)) (hZ : Grw (fun j => j = w.heap.size + 1) V V') : ValQ g s R w (.returned (.tuple #[.agg #[.int .i64 (kndV o), .bool false, .int .i64 0, .string ⟨#[]⟩, .slice ao l1 q1, .slice ap l2 q2], .nilIface])) V' := by
  subst hR
  have hl := h.sz
  obtain ⟨p1, p2, p3, p4, p5, p6, p7, p8, p9, p10⟩ := hp
  refine ⟨gb_of_grw (h.gr.trans hZ (fun j _ e => .inr (by omega))) (fun j hj e => by omega), kndV o, false, 0, ⟨#[]⟩, ao, l1, q1, ap, l2, q2, rfl, ?_, (hZ.block h.rd.lt (by omega)).trans h.rd⟩
  exact Rep.mono (fun k hk _ => by omega) _ (Rep.keep ⟨hZ.size, fun k hk hl => hZ.block hl (by omega)⟩ _ hrep)
set_option maxRecDepth 100000 in
set_option maxHeartbeats 8000000 in
theorem parts_l (g F : Nat) (s : ByteArray) (room : Int) (t u : Tok) (w : World) (hR : Rd g s t.b w) (hE : Env w) (hgN : 4 ≤ g) (hs : s.size ≤ 1000) (htb : t.b ≤ s.size) (hk : t.k ≠ 1) (hr : 1 ≤ room) (hr2 : room ≤ 1000) (hnx : nx s.data.toList t.b = .ok u) (hu : u.k ≠ 4) (hF : 2 * (s.size - u.b) + 2 ≤ F) (HV : ValH g F s) :
    Calls Tryz.prog 38 #[.pointer (some ⟨g, 0, none⟩), tkA t, .int .i64 room] w (ValQ g s (pl s.data.toList F false (room - 1) [] [] u) w) := by
  have hl := size_l s
  have hgl := hR.lt
  have HN : Hid (∀ V, Grw (fun j => w.heap.size ≤ j) w V → Calls Tryz.prog 16 #[.pointer (some ⟨g, 0, none⟩)] V fun e w' => e = .returned (.tuple #[tkA u, .nilIface]) ∧ V.grownBy w' (some g) ∧ (Rd g s u.b w' ∧ Env w')) := fun V hV => by
    have hb : Below w.heap.size w V := ⟨hV.1, hV.2.1, hV.2.2.1, hV.2.2.2.1, fun k hk => hV.block hk (by omega)⟩
    refine (next_q g t.b s V (hR.go hb) (hE.go hb) hs htb).mono fun e w' h => ?_
    rw [hnx] at h
    exact ⟨h.2.1, h.1, h.2.2, env_gb (hE.go hb) h.1 hgN (hR.go hb).lt⟩
  obtain ⟨u1, u2, u3, u4⟩ := nx_ok4 (by omega) hnx
  rw [← hl] at u2 u3 u4
  obtain ⟨F', rfl⟩ : ∃ F', F = F' + 1 := ⟨F - 1, by omega⟩
  have HVH := Lib.hid HV
  have HS := Lib.hid hs
  have HR2 := Lib.hid hr2
  have HU := Lib.hid (show u.b ≤ s.size ∧ u.a ≤ s.size ∧ u.t.length ≤ 4 * (s.size + 1) ∧ 2 * (s.size - u.b) + 1 ≤ F' from ⟨u2, u3, u4, by omega⟩)
  have hPos : Hid (Pos false g g (w.heap.size + 3) w.heap.size) := ⟨hgl, hgN, by omega, by omega, by omega, by omega, by omega, (fun e => by cases e), by omega, by omega⟩
  obtain ⟨R, hRe⟩ : ∃ R, R = pl s.data.toList (F' + 1) false (room - 1) [] [] u := ⟨_, rfl⟩
  rw [← hRe]
  have HRE := Lib.hid hRe.symm
  clear hRe hR hE hs htb hnx hF HV u1 u2 u3 u4 hl
  have HGL := Lib.hid hgl
  clear hgl
  
  
  obtain ⟨W0, hW0, hk0, hr0, hb0, hz0⟩ := two_it w (t.k : Int) (t.a : Int) (t.b : Int) (mkS t.t) t.n
  have HW0 := Lib.hid hW0
  have HK0 := Lib.hid hk0
  have HR0 := Lib.hid hr0
  have HB0 := Lib.hid hb0
  clear hW0 hk0 hr0 hb0
  have hk1 : (t.k : Int) ≠ 1 := by omega
  clear hk
  have hu1 : ((u.k : Int) == 4) = false := by simp; omega
  have hrr : decide (room < 1) = false := decide_eq_false (by omega)
  clear hu
  go_enter Tryz.func38, Tryz.ntmps38
  go_upto_region 3 with (fail)
  rw [← HW0.out]
  have hq : IntKind.i64.wrap (room - 1) = room - 1 := by rw [IntKind.wrap_i64]; omega
  obtain ⟨a0, a1, a2, a3, a4⟩ := cells5 HK0.out
  go_upto_region 6 with (fail)
  obtain ⟨WP, hWP⟩ : ∃ WP, WP = W0.alloc (obP 4 (.slice none 0 0) (.slice none 0 0) 4 (.map none) (room - 1)) := ⟨_, rfl⟩
  have hbP : Below W0.heap.size W0 WP := by rw [hWP]; exact (Below.refl _ _).alloc (Nat.le_refl _) _
  have hPP : WP.heap[w.heap.size + 2]? = some (obP 4 (.slice none 0 0) (.slice none 0 0) 4 (.map none) (room - 1)) := by rw [hWP, ← hz0]; exact heap_alloc_new W0 _
  have HPS : Hid (PS false (w.heap.size + 2) g (w.heap.size + 3) (room - 1) [] [] WP) := ⟨_, _, [], hPP, World.ownsRow_nil _ _ _ _, trivial, (fun j e => by cases e), (fun j e => by cases e), (fun e => by cases e), (fun _ => ⟨rfl, rfl⟩)⟩
  have hSZ : w.heap.size + 3 ≤ WP.heap.size := by have := (Array.getElem?_eq_some_iff.1 hPP).1; omega
  rw [← hWP]
  have HSZ := Lib.hid hSZ
  clear hWP hPP hSZ
  have HKP : Hid (WP.heap[w.heap.size]? = some (obT (t.k : Int) (t.a : Int) (t.b : Int) (mkS t.t) t.n)) := (hbP.block _ (by omega)).trans HK0.out
  have HRP : Hid (WP.heap[w.heap.size + 1]? = some (obV 0 false 0 ⟨#[]⟩ none 0 0 none 0 0)) := (hbP.block _ (by omega)).trans HR0.out
  have HGP : Hid (Grw (fun j => w.heap.size ≤ j) w WP) := Grw.of_below (HB0.out.trans (hbP.mono (by omega))) (fun k h1 h2 => h1)
  clear hbP a0 a1 a2 a3 a4
  go_wp2_with fail
  (with_reducible refine (HN.out WP HGP.out).mono ?_)
  rintro e w2 ⟨rfl, hg2, hp2⟩
  have hPL : PL false g g (w.heap.size + 3) s (room - 1) [] [] u.b (obT (t.k : Int) (t.a : Int) (t.b : Int) (mkS t.t) t.n) w w2 := by
    have hG : Grw (fun j => j = g) WP w2 := Grw.of_gb hg2 (fun j e => by injection e with e; exact e.symm)
    have h1 := HGL.out
    have h2 := (Array.getElem?_eq_some_iff.1 HRP.out).1
    exact ⟨(hG.block (by omega) (by omega)).trans HKP.out, (hG.block (by omega) (by omega)).trans HRP.out, HPS.out.keep' hG (by omega) (fun e => by cases e) (fun j h1 h2 => by omega), hp2.1, hp2.2, (HGP.out.mono (fun j _ e => .inr e)).trans hG (fun j _ e => .inl e), Nat.le_trans HSZ.out hG.size⟩
  have HPL := Lib.hid hPL
  clear hg2 hp2 hPL
  obtain ⟨a0, a1, a2, a3, a4⟩ := cells5 HPL.out.tb
  have f0 := frz HPL.out.tb 0
  have f1 := frz HPL.out.tb 1
  have f2 := frz HPL.out.tb 2
  have f3 := frz HPL.out.tb 3
  have f4 := frz HPL.out.tb 4
  go_upto_region 7 with (fail)
  obtain ⟨w3, hw3⟩ : ∃ w3, w3 = (((((w2.setCell ⟨w.heap.size, 0, none⟩ (.int .i64 (u.k : Int))).setCell ⟨w.heap.size, 1, none⟩ (.int .i64 (u.a : Int))).setCell ⟨w.heap.size, 2, none⟩ (.int .i64 (u.b : Int))).setCell ⟨w.heap.size, 3, none⟩ (.string (mkS u.t))).setCell ⟨w.heap.size, 4, none⟩ (.int .i64 u.n)) := ⟨_, rfl⟩
  have HPL3 : Hid (PL false g g (w.heap.size + 3) s (room - 1) [] [] u.b (obT (u.k : Int) (u.a : Int) (u.b : Int) (mkS u.t) u.n) w w3) := by rw [hw3]; exact Lib.hid (HPL.out.tok hPos.out (gr_set5 w2 w.heap.size _ _ _ _ _) (set5 HPL.out.tb _ _ _ _ _))
  rw [← hw3]
  clear hw3 a0 a1 a2 a3 a4 f0 f1 f2 f3 f4
  obtain ⟨a0, a1, a2, a3, a4⟩ := cells5 HPL3.out.tb
  have HP4 : Hid (∃ vi vk, w3.heap[w.heap.size + 2]? = some (obP 4 vi vk 4 (.map none) (room - 1))) := by obtain ⟨vi, vk, css, h1, _⟩ := HPL3.out.ps; exact ⟨vi, vk, h1⟩
  obtain ⟨vi0, vk0, hp4⟩ := HP4.out
  have p6 := cell_of_row _ _ 6 _ _ _ hp4
  have nN := neN
  have HLI : Hid (LI false g g (w.heap.size + 3) (F' + 1) s (room - 1) R F' [] [] u w w3) := ⟨HRE.out, by omega, HU.out, Nat.zero_le _, (fun _ => rfl), (fun _ => rfl), HPL3.out⟩
  clear hp4
  go_wp2
  clear a0 a1 a2 a3 a4 p6 nN HP4 HPL HPL3 HPS HKP HRP HGP HK0 HR0 HB0 HW0 HN HRE HU HSZ hq hk1 hu1 hz0 hrr
  go_loopw [9] (fun _ wr => ∃ (f : Nat) (ks : List (List UInt8)) (xs : List JV) (x : Tok), Hid (LI false g g (w.heap.size + 3) (F' + 1) s (room - 1) R f ks xs x w wr)) (fun _ wr => s.size - posR g wr)
  case atStart => exact ⟨F', [], [], u, HLI⟩
  case round =>
    clear HLI
    obtain ⟨f, ks, xs, x, HL⟩ := hrel
    have hxl : xs.length ≤ 1000 := by have := HL.out.xl; have := HL.out.tk.1; have := HS.out; omega
    have HIT := Lib.hid (item_at hPos.out HL.out.pl HS.out (by have := HR2.out; omega) HVH.out HL.out.fu HL.out.tk hxl HL.out.kx HL.out.kn)
    obtain ⟨a0, a1, a2, a3, a4⟩ := cells5 HL.out.pl.tb
    clear hxl
    go_wp2_with fail
    (with_reducible refine HIT.out.mono ?_)
    intro e w4 hq
    clear HIT a0 a1 a2 a3 a4
    cases hx : itP s.data.toList f false (room - 1) ks x with
    | error r =>
      rw [hx] at hq
      obtain ⟨rfl, hrb, hrd, hg⟩ := HL.out.pl.item_er hPos.out hq
      have HRE := Lib.hid (HL.out.er hx)
      have HRB := Lib.hid hrb
      have HRD := Lib.hid hrd
      have HG := Lib.hid hg
      clear hq hrb hrd hg hx
      obtain ⟨u0, u1, u2, u3, u4, u5⟩ := cells6 HRB.out
      have z0 := frz HRB.out 0
      have z1 := frz HRB.out 1
      have z2 := frz HRB.out 2
      have z3 := frz HRB.out 3
      have z4 := frz HRB.out 4
      have z5 := frz HRB.out 5
      have nF := neF (r.1 : Int) r.2
      have HH := Lib.hid (set6 HRB.out (.int .i64 0) (.bool false) (.int .i64 0) (.string ⟨#[]⟩) (.slice none 0 0) (.slice none 0 0))
      have HZ := Lib.hid (gr_set6 w4 (w.heap.size + 1) (.int .i64 0) (.bool false) (.int .i64 0) (.string ⟨#[]⟩) (.slice none 0 0) (.slice none 0 0))
      go_wp2_with fail
      obtain ⟨d0, d1, d2, d3, d4, d5⟩ := cells6 HH.out
      clear u0 u1 u2 u3 u4 u5 z0 z1 z2 z3 z4 z5 nF
      (with_reducible refine bodyPost_ret (v := .tuple #[zVl, fauV r]) (by simp [results, Tryz.results38, go_sem, d0, d1, d2, d3, d4, d5]) rfl ?_)
      (with_reducible exact fin_er HRE.out HG.out HRD.out HGL.out HZ.out)
    | ok r =>
      rw [hx] at hq
      obtain ⟨rfl, hpl4⟩ := HL.out.pl.item hPos.out hq
      have HP4 := Lib.hid hpl4
      have HX := Lib.hid hx
      have hl := size_l s
      have hi := itP_ok (by rw [← hl]; exact HL.out.tk.1) hx
      rw [← hl] at hi
      have HBH := Lib.hid (behind_q g r.2.2 false s w4 hpl4.rd hpl4.ev hPos.out.gN HS.out hi.2.1)
      rw [show ((lastK false : Nat) : Int) = 4 from rfl] at HBH
      have p6 : w4.cell? ⟨w.heap.size + 2, 6, none⟩ = some (.int .i64 4) := by obtain ⟨vi, vk, css, h1, _⟩ := hpl4.ps; exact cell_of_row _ _ 6 _ _ _ h1
      have nN := neN
      clear hq hpl4 hx hl hi
      go_wp2_with fail
      (with_reducible refine HBH.out.mono ?_)
      intro e w5 hq
      clear HBH p6
      cases hb : bhP s.data.toList false r.2.2 with
      | error r2 =>
        rw [hb] at hq
        obtain ⟨hg5, rfl, a, ha, hrd⟩ := hq
        have HP5 := Lib.hid (HP4.out.mv hPos.out hg5 hrd)
        have HRE := Lib.hid (HL.out.er2 HX.out hb)
        have HA := Lib.hid ha
        clear hg5 hrd ha hb
        obtain ⟨a0, a1, a2, a3, a4⟩ := cells5 HP5.out.tb
        have f0 := frz HP5.out.tb 0
        have f1 := frz HP5.out.tb 1
        have f2 := frz HP5.out.tb 2
        have f3 := frz HP5.out.tb 3
        have f4 := frz HP5.out.tb 4
        go_upto_region 16 with (fail)
        obtain ⟨w6, hw6⟩ : ∃ w6, w6 = (((((w5.setCell ⟨w.heap.size, 0, none⟩ (.int .i64 0)).setCell ⟨w.heap.size, 1, none⟩ (.int .i64 0)).setCell ⟨w.heap.size, 2, none⟩ (.int .i64 0)).setCell ⟨w.heap.size, 3, none⟩ (.string ⟨#[]⟩)).setCell ⟨w.heap.size, 4, none⟩ (.int .i64 0)) := ⟨_, rfl⟩
        have HP6 : Hid (PL false g g (w.heap.size + 3) s (room - 1) r.1 (xs ++ [r.2.1]) a (obT 0 0 0 ⟨#[]⟩ 0) w w6) := by rw [hw6]; exact Lib.hid (HP5.out.tok hPos.out (gr_set5 w5 w.heap.size _ _ _ _ _) (set5 HP5.out.tb _ _ _ _ _))
        rw [← hw6]
        clear hw6 a0 a1 a2 a3 a4 f0 f1 f2 f3 f4
        have HRB := Lib.hid HP6.out.rb
        have HRD : Hid (∃ a, a ≤ s.size ∧ Rd g s a w6) := ⟨a, HA.out, HP6.out.rd⟩
        have HG := Lib.hid HP6.out.gr
        clear nN
        obtain ⟨u0, u1, u2, u3, u4, u5⟩ := cells6 HRB.out
        have z0 := frz HRB.out 0
        have z1 := frz HRB.out 1
        have z2 := frz HRB.out 2
        have z3 := frz HRB.out 3
        have z4 := frz HRB.out 4
        have z5 := frz HRB.out 5
        have nF := neF (r2.1 : Int) r2.2
        have HH := Lib.hid (set6 HRB.out (.int .i64 0) (.bool false) (.int .i64 0) (.string ⟨#[]⟩) (.slice none 0 0) (.slice none 0 0))
        have HZ := Lib.hid (gr_set6 w6 (w.heap.size + 1) (.int .i64 0) (.bool false) (.int .i64 0) (.string ⟨#[]⟩) (.slice none 0 0) (.slice none 0 0))
        go_wp2_with fail
        obtain ⟨d0, d1, d2, d3, d4, d5⟩ := cells6 HH.out
        clear u0 u1 u2 u3 u4 u5 z0 z1 z2 z3 z4 z5 nF
        (with_reducible refine bodyPost_ret (v := .tuple #[zVl, fauV r2]) (by simp [results, Tryz.results38, go_sem, d0, d1, d2, d3, d4, d5]) rfl ?_)
        (with_reducible exact fin_er HRE.out HG.out HRD.out HGL.out HZ.out)
      | ok q =>
        cases q with
        | inl b =>
          rw [hb] at hq
          obtain ⟨hg5, rfl, hrd⟩ := hq
          have HP5 := Lib.hid (HP4.out.mv hPos.out hg5 hrd)
          have HRE := Lib.hid (HL.out.end HX.out hb)
          clear hg5 hrd hb
          obtain ⟨a0, a1, a2, a3, a4⟩ := cells5 HP5.out.tb
          have f0 := frz HP5.out.tb 0
          have f1 := frz HP5.out.tb 1
          have f2 := frz HP5.out.tb 2
          have f3 := frz HP5.out.tb 3
          have f4 := frz HP5.out.tb 4
          go_upto_region 16 with (fail)
          obtain ⟨w6, hw6⟩ : ∃ w6, w6 = (((((w5.setCell ⟨w.heap.size, 0, none⟩ (.int .i64 0)).setCell ⟨w.heap.size, 1, none⟩ (.int .i64 0)).setCell ⟨w.heap.size, 2, none⟩ (.int .i64 0)).setCell ⟨w.heap.size, 3, none⟩ (.string ⟨#[]⟩)).setCell ⟨w.heap.size, 4, none⟩ (.int .i64 0)) := ⟨_, rfl⟩
          have HP6 : Hid (PL false g g (w.heap.size + 3) s (room - 1) r.1 (xs ++ [r.2.1]) b (obT 0 0 0 ⟨#[]⟩ 0) w w6) := by rw [hw6]; exact Lib.hid (HP5.out.tok hPos.out (gr_set5 w5 w.heap.size _ _ _ _ _) (set5 HP5.out.tb _ _ _ _ _))
          rw [← hw6]
          clear hw6 a0 a1 a2 a3 a4 f0 f1 f2 f3 f4
          obtain ⟨ao, l1, q1, ap, l2, q2, hpb, hrep⟩ := HP6.out.ps.rep
          have hpb2 : w6.heap[w.heap.size + 2]? = some (obP 4 (.slice ao l1 q1) (.slice ap l2 q2) 4 (.map none) (room - 1)) := hpb
          have HREP := Lib.hid hrep
          have p0 := cell_of_row _ _ 0 _ _ _ hpb2
          have p1 := cell_of_row _ _ 1 _ _ _ hpb2
          have p2 := cell_of_row _ _ 2 _ _ _ hpb2
          have p3 := cell_of_row _ _ 3 _ _ _ hpb2
          have p4 := cell_of_row _ _ 4 _ _ _ hpb2
          have p5 := cell_of_row _ _ 5 _ _ _ hpb2
          clear hpb hpb2 hrep
          have HRB := Lib.hid HP6.out.rb
          obtain ⟨u0, u1, u2, u3, u4, u5⟩ := cells6 HRB.out
          have z0 := frz HRB.out 0
          have z1 := frz HRB.out 1
          have z2 := frz HRB.out 2
          have z3 := frz HRB.out 3
          have z4 := frz HRB.out 4
          have z5 := frz HRB.out 5
          have HH := Lib.hid (set6 HRB.out (.int .i64 4) (.bool false) (.int .i64 0) (.string ⟨#[]⟩) (.slice ao l1 q1) (.slice ap l2 q2))
          have HZ := Lib.hid (gr_set6 w6 (w.heap.size + 1) (.int .i64 4) (.bool false) (.int .i64 0) (.string ⟨#[]⟩) (.slice ao l1 q1) (.slice ap l2 q2))
          go_wp2_with fail
          obtain ⟨d0, d1, d2, d3, d4, d5⟩ := cells6 HH.out
          clear u0 u1 u2 u3 u4 u5 z0 z1 z2 z3 z4 z5 p0 p1 p2 p3 p4 p5 nN
          (with_reducible refine bodyPost_ret (v := .tuple #[.agg #[.int .i64 4, .bool false, .int .i64 0, .string ⟨#[]⟩, .slice ao l1 q1, .slice ap l2 q2], .nilIface]) (by simp [results, Tryz.results38, go_sem, d0, d1, d2, d3, d4, d5]) rfl ?_)
          exact fin_ok (o := false) HRE.out hPos.out HP6.out HREP.out HZ.out
        | inr x' =>
          rw [hb] at hq
          obtain ⟨hg5, rfl, hrd⟩ := hq
          have HP5 := Lib.hid (HP4.out.mv hPos.out hg5 hrd)
          have HBB := Lib.hid hb
          clear hg5 hrd hb
          obtain ⟨a0, a1, a2, a3, a4⟩ := cells5 HP5.out.tb
          have f0 := frz HP5.out.tb 0
          have f1 := frz HP5.out.tb 1
          have f2 := frz HP5.out.tb 2
          have f3 := frz HP5.out.tb 3
          have f4 := frz HP5.out.tb 4
          go_upto_region 16 with (fail)
          obtain ⟨w6, hw6⟩ : ∃ w6, w6 = (((((w5.setCell ⟨w.heap.size, 0, none⟩ (.int .i64 (x'.k : Int))).setCell ⟨w.heap.size, 1, none⟩ (.int .i64 (x'.a : Int))).setCell ⟨w.heap.size, 2, none⟩ (.int .i64 (x'.b : Int))).setCell ⟨w.heap.size, 3, none⟩ (.string (mkS x'.t))).setCell ⟨w.heap.size, 4, none⟩ (.int .i64 x'.n)) := ⟨_, rfl⟩
          have HP6 : Hid (PL false g g (w.heap.size + 3) s (room - 1) r.1 (xs ++ [r.2.1]) x'.b (obT (x'.k : Int) (x'.a : Int) (x'.b : Int) (mkS x'.t) x'.n) w w6) := by rw [hw6]; exact Lib.hid (HP5.out.tok hPos.out (gr_set5 w5 w.heap.size _ _ _ _ _) (set5 HP5.out.tb _ _ _ _ _))
          rw [← hw6]
          clear hw6 a0 a1 a2 a3 a4 f0 f1 f2 f3 f4
          obtain ⟨f', hli, hlt⟩ := HL.out.next HX.out HBB.out HP6.out
          have HLI := Lib.hid hli
          have HLT := Lib.hid hlt
          clear hli hlt
          go_wp2
          go_roundw
          case rel => exact ⟨f', _, _, x', HLI⟩
          case measure =>
            show s.size - posR g w6 < s.size - posR g wr
            rw [posR_rd HLI.out.pl.rd, posR_rd HL.out.pl.rd]
            have := HLT.out
            have := HLI.out.tk.1
            omega
set_option maxRecDepth 100000 in
set_option maxHeartbeats 8000000 in
theorem parts_o (g F : Nat) (s : ByteArray) (room : Int) (t u : Tok) (w : World) (hR : Rd g s t.b w) (hE : Env w) (hgN : 4 ≤ g) (hs : s.size ≤ 1000) (htb : t.b ≤ s.size) (hk : t.k = 1) (hr : 1 ≤ room) (hr2 : room ≤ 1000) (hnx : nx s.data.toList t.b = .ok u) (hu : u.k ≠ 2) (hF : 2 * (s.size - u.b) + 2 ≤ F) (HV : ValH g F s) :
    Calls Tryz.prog 38 #[.pointer (some ⟨g, 0, none⟩), tkA t, .int .i64 room] w (ValQ g s (pl s.data.toList F true (room - 1) [] [] u) w) := by
  have hl := size_l s
  have hgl := hR.lt
  have HN : Hid (∀ V, Grw (fun j => w.heap.size ≤ j) w V → Calls Tryz.prog 16 #[.pointer (some ⟨g, 0, none⟩)] V fun e w' => e = .returned (.tuple #[tkA u, .nilIface]) ∧ V.grownBy w' (some g) ∧ (Rd g s u.b w' ∧ Env w')) := fun V hV => by
    have hb : Below w.heap.size w V := ⟨hV.1, hV.2.1, hV.2.2.1, hV.2.2.2.1, fun k hk => hV.block hk (by omega)⟩
    refine (next_q g t.b s V (hR.go hb) (hE.go hb) hs htb).mono fun e w' h => ?_
    rw [hnx] at h
    exact ⟨h.2.1, h.1, h.2.2, env_gb (hE.go hb) h.1 hgN (hR.go hb).lt⟩
  obtain ⟨u1, u2, u3, u4⟩ := nx_ok4 (by omega) hnx
  rw [← hl] at u2 u3 u4
  obtain ⟨F', rfl⟩ : ∃ F', F = F' + 1 := ⟨F - 1, by omega⟩
  have HVH := Lib.hid HV
  have HS := Lib.hid hs
  have HR2 := Lib.hid hr2
  have HU := Lib.hid (show u.b ≤ s.size ∧ u.a ≤ s.size ∧ u.t.length ≤ 4 * (s.size + 1) ∧ 2 * (s.size - u.b) + 1 ≤ F' from ⟨u2, u3, u4, by omega⟩)
  have hPos : Hid (Pos true g (w.heap.size + 3) (w.heap.size + 4) w.heap.size) := ⟨hgl, hgN, by omega, by omega, by omega, by omega, by omega, (fun e => by omega), by omega, by omega⟩
  obtain ⟨R, hRe⟩ : ∃ R, R = pl s.data.toList (F' + 1) true (room - 1) [] [] u := ⟨_, rfl⟩
  rw [← hRe]
  have HRE := Lib.hid hRe.symm
  clear hRe hR hE hs htb hnx hF HV u1 u2 u3 u4 hl
  have HGL := Lib.hid hgl
  clear hgl
  rw [tkA, hk]
  
  obtain ⟨W0, hW0, hk0, hr0, hb0, hz0⟩ := two_it w 1 (t.a : Int) (t.b : Int) (mkS t.t) t.n
  have HW0 := Lib.hid hW0
  have HK0 := Lib.hid hk0
  have HR0 := Lib.hid hr0
  have HB0 := Lib.hid hb0
  clear hW0 hk0 hr0 hb0
  
  clear hk
  have hu1 : ((u.k : Int) == 2) = false := by simp; omega
  have hrr : decide (room < 1) = false := decide_eq_false (by omega)
  clear hu
  go_enter Tryz.func38, Tryz.ntmps38
  go_upto_region 3 with (fail)
  rw [← HW0.out]
  have hq : IntKind.i64.wrap (room - 1) = room - 1 := by rw [IntKind.wrap_i64]; omega
  obtain ⟨a0, a1, a2, a3, a4⟩ := cells5 HK0.out
  have hmm := @run_makeMap Tryz.prog
  go_upto_region 6 with (fail)
  clear hmm
  obtain ⟨WP, hWP⟩ : ∃ WP, WP = (W0.alloc (obP 5 (.slice none 0 0) (.slice none 0 0) 2 (.map (some (w.heap.size + 3))) (room - 1))).alloc (.map #[] 0) := ⟨_, rfl⟩
  have hz5 : (W0.alloc (obP 5 (.slice none 0 0) (.slice none 0 0) 2 (.map (some (w.heap.size + 3))) (room - 1))).heap.size = w.heap.size + 3 := by simp; omega
  have hbP : Below W0.heap.size W0 WP := by rw [hWP]; exact ((Below.refl _ _).alloc (Nat.le_refl _) _).alloc (by simp) _
  have hPP : WP.heap[w.heap.size + 2]? = some (obP 5 (.slice none 0 0) (.slice none 0 0) 2 (.map (some (w.heap.size + 3))) (room - 1)) := by
    rw [hWP, ← hz0]
    exact ((((Below.refl (W0.heap.size + 1) (W0.alloc (obP 5 (.slice none 0 0) (.slice none 0 0) 2 (.map (some (w.heap.size + 3))) (room - 1)))).alloc (by simp) _).block _ (by omega)).trans (heap_alloc_new W0 _))
  have hMP : SetM (w.heap.size + 3) [] WP := by rw [hWP]; have h := SetM.made (W0.alloc (obP 5 (.slice none 0 0) (.slice none 0 0) 2 (.map (some (w.heap.size + 3))) (room - 1))); rw [hz5] at h; exact h
  have HPS : Hid (PS true (w.heap.size + 2) (w.heap.size + 3) (w.heap.size + 4) (room - 1) [] [] WP) := ⟨_, _, [], hPP, World.ownsRow_nil _ _ _ _, trivial, (fun j e => by cases e), (fun j e => by cases e), (fun _ => ⟨hMP, World.ownsRow_nil _ _ _ _⟩), (fun e => by cases e)⟩
  have hSZ : w.heap.size + 4 ≤ WP.heap.size := by have := hMP.lt; omega
  rw [← hWP]
  have HSZ := Lib.hid hSZ
  clear hWP hPP hSZ hMP hz5
  have HKP : Hid (WP.heap[w.heap.size]? = some (obT 1 (t.a : Int) (t.b : Int) (mkS t.t) t.n)) := (hbP.block _ (by omega)).trans HK0.out
  have HRP : Hid (WP.heap[w.heap.size + 1]? = some (obV 0 false 0 ⟨#[]⟩ none 0 0 none 0 0)) := (hbP.block _ (by omega)).trans HR0.out
  have HGP : Hid (Grw (fun j => w.heap.size ≤ j) w WP) := Grw.of_below (HB0.out.trans (hbP.mono (by omega))) (fun k h1 h2 => h1)
  clear hbP a0 a1 a2 a3 a4
  go_wp2_with fail
  (with_reducible refine (HN.out WP HGP.out).mono ?_)
  rintro e w2 ⟨rfl, hg2, hp2⟩
  have hPL : PL true g (w.heap.size + 3) (w.heap.size + 4) s (room - 1) [] [] u.b (obT 1 (t.a : Int) (t.b : Int) (mkS t.t) t.n) w w2 := by
    have hG : Grw (fun j => j = g) WP w2 := Grw.of_gb hg2 (fun j e => by injection e with e; exact e.symm)
    have h1 := HGL.out
    have h2 := (Array.getElem?_eq_some_iff.1 HRP.out).1
    exact ⟨(hG.block (by omega) (by omega)).trans HKP.out, (hG.block (by omega) (by omega)).trans HRP.out, HPS.out.keep' hG (by omega) (fun e => by omega) (fun j h1 h2 => by omega), hp2.1, hp2.2, (HGP.out.mono (fun j _ e => .inr e)).trans hG (fun j _ e => .inl e), Nat.le_trans HSZ.out hG.size⟩
  have HPL := Lib.hid hPL
  clear hg2 hp2 hPL
  obtain ⟨a0, a1, a2, a3, a4⟩ := cells5 HPL.out.tb
  have f0 := frz HPL.out.tb 0
  have f1 := frz HPL.out.tb 1
  have f2 := frz HPL.out.tb 2
  have f3 := frz HPL.out.tb 3
  have f4 := frz HPL.out.tb 4
  go_upto_region 7 with (fail)
  obtain ⟨w3, hw3⟩ : ∃ w3, w3 = (((((w2.setCell ⟨w.heap.size, 0, none⟩ (.int .i64 (u.k : Int))).setCell ⟨w.heap.size, 1, none⟩ (.int .i64 (u.a : Int))).setCell ⟨w.heap.size, 2, none⟩ (.int .i64 (u.b : Int))).setCell ⟨w.heap.size, 3, none⟩ (.string (mkS u.t))).setCell ⟨w.heap.size, 4, none⟩ (.int .i64 u.n)) := ⟨_, rfl⟩
  have HPL3 : Hid (PL true g (w.heap.size + 3) (w.heap.size + 4) s (room - 1) [] [] u.b (obT (u.k : Int) (u.a : Int) (u.b : Int) (mkS u.t) u.n) w w3) := by rw [hw3]; exact Lib.hid (HPL.out.tok hPos.out (gr_set5 w2 w.heap.size _ _ _ _ _) (set5 HPL.out.tb _ _ _ _ _))
  rw [← hw3]
  clear hw3 a0 a1 a2 a3 a4 f0 f1 f2 f3 f4
  obtain ⟨a0, a1, a2, a3, a4⟩ := cells5 HPL3.out.tb
  have HP4 : Hid (∃ vi vk, w3.heap[w.heap.size + 2]? = some (obP 5 vi vk 2 (.map (some (w.heap.size + 3))) (room - 1))) := by obtain ⟨vi, vk, css, h1, _⟩ := HPL3.out.ps; exact ⟨vi, vk, h1⟩
  obtain ⟨vi0, vk0, hp4⟩ := HP4.out
  have p6 := cell_of_row _ _ 6 _ _ _ hp4
  have nN := neN
  have HLI : Hid (LI true g (w.heap.size + 3) (w.heap.size + 4) (F' + 1) s (room - 1) R F' [] [] u w w3) := ⟨HRE.out, by omega, HU.out, Nat.zero_le _, (fun _ => rfl), (fun _ => rfl), HPL3.out⟩
  clear hp4
  go_wp2
  clear a0 a1 a2 a3 a4 p6 nN HP4 HPL HPL3 HPS HKP HRP HGP HK0 HR0 HB0 HW0 HN HRE HU HSZ hq hu1 hz0 hrr
  go_loopw [9] (fun _ wr => ∃ (f : Nat) (ks : List (List UInt8)) (xs : List JV) (x : Tok), Hid (LI true g (w.heap.size + 3) (w.heap.size + 4) (F' + 1) s (room - 1) R f ks xs x w wr)) (fun _ wr => s.size - posR g wr)
  case atStart => exact ⟨F', [], [], u, HLI⟩
  case round =>
    clear HLI
    obtain ⟨f, ks, xs, x, HL⟩ := hrel
    have hxl : xs.length ≤ 1000 := by have := HL.out.xl; have := HL.out.tk.1; have := HS.out; omega
    have HIT := Lib.hid (item_at hPos.out HL.out.pl HS.out (by have := HR2.out; omega) HVH.out HL.out.fu HL.out.tk hxl HL.out.kx HL.out.kn)
    obtain ⟨a0, a1, a2, a3, a4⟩ := cells5 HL.out.pl.tb
    clear hxl
    go_wp2_with fail
    (with_reducible refine HIT.out.mono ?_)
    intro e w4 hq
    clear HIT a0 a1 a2 a3 a4
    cases hx : itP s.data.toList f true (room - 1) ks x with
    | error r =>
      rw [hx] at hq
      obtain ⟨rfl, hrb, hrd, hg⟩ := HL.out.pl.item_er hPos.out hq
      have HRE := Lib.hid (HL.out.er hx)
      have HRB := Lib.hid hrb
      have HRD := Lib.hid hrd
      have HG := Lib.hid hg
      clear hq hrb hrd hg hx
      obtain ⟨u0, u1, u2, u3, u4, u5⟩ := cells6 HRB.out
      have z0 := frz HRB.out 0
      have z1 := frz HRB.out 1
      have z2 := frz HRB.out 2
      have z3 := frz HRB.out 3
      have z4 := frz HRB.out 4
      have z5 := frz HRB.out 5
      have nF := neF (r.1 : Int) r.2
      have HH := Lib.hid (set6 HRB.out (.int .i64 0) (.bool false) (.int .i64 0) (.string ⟨#[]⟩) (.slice none 0 0) (.slice none 0 0))
      have HZ := Lib.hid (gr_set6 w4 (w.heap.size + 1) (.int .i64 0) (.bool false) (.int .i64 0) (.string ⟨#[]⟩) (.slice none 0 0) (.slice none 0 0))
      go_wp2_with fail
      obtain ⟨d0, d1, d2, d3, d4, d5⟩ := cells6 HH.out
      clear u0 u1 u2 u3 u4 u5 z0 z1 z2 z3 z4 z5 nF
      (with_reducible refine bodyPost_ret (v := .tuple #[zVl, fauV r]) (by simp [results, Tryz.results38, go_sem, d0, d1, d2, d3, d4, d5]) rfl ?_)
      (with_reducible exact fin_er HRE.out HG.out HRD.out HGL.out HZ.out)
    | ok r =>
      rw [hx] at hq
      obtain ⟨rfl, hpl4⟩ := HL.out.pl.item hPos.out hq
      have HP4 := Lib.hid hpl4
      have HX := Lib.hid hx
      have hl := size_l s
      have hi := itP_ok (by rw [← hl]; exact HL.out.tk.1) hx
      rw [← hl] at hi
      have HBH := Lib.hid (behind_q g r.2.2 true s w4 hpl4.rd hpl4.ev hPos.out.gN HS.out hi.2.1)
      rw [show ((lastK true : Nat) : Int) = 2 from rfl] at HBH
      have p6 : w4.cell? ⟨w.heap.size + 2, 6, none⟩ = some (.int .i64 2) := by obtain ⟨vi, vk, css, h1, _⟩ := hpl4.ps; exact cell_of_row _ _ 6 _ _ _ h1
      have nN := neN
      clear hq hpl4 hx hl hi
      go_wp2_with fail
      (with_reducible refine HBH.out.mono ?_)
      intro e w5 hq
      clear HBH p6
      cases hb : bhP s.data.toList true r.2.2 with
      | error r2 =>
        rw [hb] at hq
        obtain ⟨hg5, rfl, a, ha, hrd⟩ := hq
        have HP5 := Lib.hid (HP4.out.mv hPos.out hg5 hrd)
        have HRE := Lib.hid (HL.out.er2 HX.out hb)
        have HA := Lib.hid ha
        clear hg5 hrd ha hb
        obtain ⟨a0, a1, a2, a3, a4⟩ := cells5 HP5.out.tb
        have f0 := frz HP5.out.tb 0
        have f1 := frz HP5.out.tb 1
        have f2 := frz HP5.out.tb 2
        have f3 := frz HP5.out.tb 3
        have f4 := frz HP5.out.tb 4
        go_upto_region 16 with (fail)
        obtain ⟨w6, hw6⟩ : ∃ w6, w6 = (((((w5.setCell ⟨w.heap.size, 0, none⟩ (.int .i64 0)).setCell ⟨w.heap.size, 1, none⟩ (.int .i64 0)).setCell ⟨w.heap.size, 2, none⟩ (.int .i64 0)).setCell ⟨w.heap.size, 3, none⟩ (.string ⟨#[]⟩)).setCell ⟨w.heap.size, 4, none⟩ (.int .i64 0)) := ⟨_, rfl⟩
        have HP6 : Hid (PL true g (w.heap.size + 3) (w.heap.size + 4) s (room - 1) r.1 (xs ++ [r.2.1]) a (obT 0 0 0 ⟨#[]⟩ 0) w w6) := by rw [hw6]; exact Lib.hid (HP5.out.tok hPos.out (gr_set5 w5 w.heap.size _ _ _ _ _) (set5 HP5.out.tb _ _ _ _ _))
        rw [← hw6]
        clear hw6 a0 a1 a2 a3 a4 f0 f1 f2 f3 f4
        have HRB := Lib.hid HP6.out.rb
        have HRD : Hid (∃ a, a ≤ s.size ∧ Rd g s a w6) := ⟨a, HA.out, HP6.out.rd⟩
        have HG := Lib.hid HP6.out.gr
        clear nN
        obtain ⟨u0, u1, u2, u3, u4, u5⟩ := cells6 HRB.out
        have z0 := frz HRB.out 0
        have z1 := frz HRB.out 1
        have z2 := frz HRB.out 2
        have z3 := frz HRB.out 3
        have z4 := frz HRB.out 4
        have z5 := frz HRB.out 5
        have nF := neF (r2.1 : Int) r2.2
        have HH := Lib.hid (set6 HRB.out (.int .i64 0) (.bool false) (.int .i64 0) (.string ⟨#[]⟩) (.slice none 0 0) (.slice none 0 0))
        have HZ := Lib.hid (gr_set6 w6 (w.heap.size + 1) (.int .i64 0) (.bool false) (.int .i64 0) (.string ⟨#[]⟩) (.slice none 0 0) (.slice none 0 0))
        go_wp2_with fail
        obtain ⟨d0, d1, d2, d3, d4, d5⟩ := cells6 HH.out
        clear u0 u1 u2 u3 u4 u5 z0 z1 z2 z3 z4 z5 nF
        (with_reducible refine bodyPost_ret (v := .tuple #[zVl, fauV r2]) (by simp [results, Tryz.results38, go_sem, d0, d1, d2, d3, d4, d5]) rfl ?_)
        (with_reducible exact fin_er HRE.out HG.out HRD.out HGL.out HZ.out)
      | ok q =>
        cases q with
        | inl b =>
          rw [hb] at hq
          obtain ⟨hg5, rfl, hrd⟩ := hq
          have HP5 := Lib.hid (HP4.out.mv hPos.out hg5 hrd)
          have HRE := Lib.hid (HL.out.end HX.out hb)
          clear hg5 hrd hb
          obtain ⟨a0, a1, a2, a3, a4⟩ := cells5 HP5.out.tb
          have f0 := frz HP5.out.tb 0
          have f1 := frz HP5.out.tb 1
          have f2 := frz HP5.out.tb 2
          have f3 := frz HP5.out.tb 3
          have f4 := frz HP5.out.tb 4
          go_upto_region 16 with (fail)
          obtain ⟨w6, hw6⟩ : ∃ w6, w6 = (((((w5.setCell ⟨w.heap.size, 0, none⟩ (.int .i64 0)).setCell ⟨w.heap.size, 1, none⟩ (.int .i64 0)).setCell ⟨w.heap.size, 2, none⟩ (.int .i64 0)).setCell ⟨w.heap.size, 3, none⟩ (.string ⟨#[]⟩)).setCell ⟨w.heap.size, 4, none⟩ (.int .i64 0)) := ⟨_, rfl⟩
          have HP6 : Hid (PL true g (w.heap.size + 3) (w.heap.size + 4) s (room - 1) r.1 (xs ++ [r.2.1]) b (obT 0 0 0 ⟨#[]⟩ 0) w w6) := by rw [hw6]; exact Lib.hid (HP5.out.tok hPos.out (gr_set5 w5 w.heap.size _ _ _ _ _) (set5 HP5.out.tb _ _ _ _ _))
          rw [← hw6]
          clear hw6 a0 a1 a2 a3 a4 f0 f1 f2 f3 f4
          obtain ⟨ao, l1, q1, ap, l2, q2, hpb, hrep⟩ := HP6.out.ps.rep
          have hpb2 : w6.heap[w.heap.size + 2]? = some (obP 5 (.slice ao l1 q1) (.slice ap l2 q2) 2 (.map (some (w.heap.size + 3))) (room - 1)) := hpb
          have HREP := Lib.hid hrep
          have p0 := cell_of_row _ _ 0 _ _ _ hpb2
          have p1 := cell_of_row _ _ 1 _ _ _ hpb2
          have p2 := cell_of_row _ _ 2 _ _ _ hpb2
          have p3 := cell_of_row _ _ 3 _ _ _ hpb2
          have p4 := cell_of_row _ _ 4 _ _ _ hpb2
          have p5 := cell_of_row _ _ 5 _ _ _ hpb2
          clear hpb hpb2 hrep
          have HRB := Lib.hid HP6.out.rb
          obtain ⟨u0, u1, u2, u3, u4, u5⟩ := cells6 HRB.out
          have z0 := frz HRB.out 0
          have z1 := frz HRB.out 1
          have z2 := frz HRB.out 2
          have z3 := frz HRB.out 3
          have z4 := frz HRB.out 4
          have z5 := frz HRB.out 5
          have HH := Lib.hid (set6 HRB.out (.int .i64 5) (.bool false) (.int .i64 0) (.string ⟨#[]⟩) (.slice ao l1 q1) (.slice ap l2 q2))
          have HZ := Lib.hid (gr_set6 w6 (w.heap.size + 1) (.int .i64 5) (.bool false) (.int .i64 0) (.string ⟨#[]⟩) (.slice ao l1 q1) (.slice ap l2 q2))
          go_wp2_with fail
          obtain ⟨d0, d1, d2, d3, d4, d5⟩ := cells6 HH.out
          clear u0 u1 u2 u3 u4 u5 z0 z1 z2 z3 z4 z5 p0 p1 p2 p3 p4 p5 nN
          (with_reducible refine bodyPost_ret (v := .tuple #[.agg #[.int .i64 5, .bool false, .int .i64 0, .string ⟨#[]⟩, .slice ao l1 q1, .slice ap l2 q2], .nilIface]) (by simp [results, Tryz.results38, go_sem, d0, d1, d2, d3, d4, d5]) rfl ?_)
          exact fin_ok (o := true) HRE.out hPos.out HP6.out HREP.out HZ.out
        | inr x' =>
          rw [hb] at hq
          obtain ⟨hg5, rfl, hrd⟩ := hq
          have HP5 := Lib.hid (HP4.out.mv hPos.out hg5 hrd)
          have HBB := Lib.hid hb
          clear hg5 hrd hb
          obtain ⟨a0, a1, a2, a3, a4⟩ := cells5 HP5.out.tb
          have f0 := frz HP5.out.tb 0
          have f1 := frz HP5.out.tb 1
          have f2 := frz HP5.out.tb 2
          have f3 := frz HP5.out.tb 3
          have f4 := frz HP5.out.tb 4
          go_upto_region 16 with (fail)
          obtain ⟨w6, hw6⟩ : ∃ w6, w6 = (((((w5.setCell ⟨w.heap.size, 0, none⟩ (.int .i64 (x'.k : Int))).setCell ⟨w.heap.size, 1, none⟩ (.int .i64 (x'.a : Int))).setCell ⟨w.heap.size, 2, none⟩ (.int .i64 (x'.b : Int))).setCell ⟨w.heap.size, 3, none⟩ (.string (mkS x'.t))).setCell ⟨w.heap.size, 4, none⟩ (.int .i64 x'.n)) := ⟨_, rfl⟩
          have HP6 : Hid (PL true g (w.heap.size + 3) (w.heap.size + 4) s (room - 1) r.1 (xs ++ [r.2.1]) x'.b (obT (x'.k : Int) (x'.a : Int) (x'.b : Int) (mkS x'.t) x'.n) w w6) := by rw [hw6]; exact Lib.hid (HP5.out.tok hPos.out (gr_set5 w5 w.heap.size _ _ _ _ _) (set5 HP5.out.tb _ _ _ _ _))
          rw [← hw6]
          clear hw6 a0 a1 a2 a3 a4 f0 f1 f2 f3 f4
          obtain ⟨f', hli, hlt⟩ := HL.out.next HX.out HBB.out HP6.out
          have HLI := Lib.hid hli
          have HLT := Lib.hid hlt
          clear hli hlt
          go_wp2
          go_roundw
          case rel => exact ⟨f', _, _, x', HLI⟩
          case measure =>
            show s.size - posR g w6 < s.size - posR g wr
            rw [posR_rd HLI.out.pl.rd, posR_rd HL.out.pl.rd]
            have := HLT.out
            have := HLI.out.tk.1
            omega
end Go.Proofs.YtpgllcdcpdeicaaGreatDoor.Jv
namespace Go.Proofs.YtpgllcdcpdeicaaGreatDoor.Jv
open Jt
open Go.RowKit Go.ChangeMaps Go.MapKept Go.WideMaps
set_option linter.unusedSimpArgs false
set_option linter.unusedVariables false

/-- what parts answers -/
def paP (l : List UInt8) (F : Nat) (room : Int) (t : Tok) : Except Er (JV × Nat) :=
  if room < 1 then .error (t.a, 4)
  else match nx l t.b with
    | .error e => .error e
    | .ok u => if u.k = lastK (t.k == 1) then .ok (.mk (kndV (t.k == 1)) false 0 [] [] [], u.b) else pl l F (t.k == 1) (room - 1) [] [] u
theorem chain4 {g : Nat} {s : ByteArray} {p : Nat} {w V w2 w3 w' : World} (hgl : g < w.heap.size) (k1 : Grw (fun j => w.heap.size ≤ j) w V) (k2 : V.grownBy w2 (some g)) (hr : Rd g s p w2) (k3 : Grw (fun j => j = w.heap.size) w2 w3) (k4 : Grw (fun j => j = w.heap.size + 1) w3 w') : w.grownBy w' (some g) ∧ Rd g s p w' := by
  have y1 := ((k1.mono (Y := fun j => j = g ∨ w.heap.size ≤ j) fun j _ e => .inr e).trans (Grw.of_gb (X := fun j => j = g) k2 (fun j e => by injection e with e; exact e.symm)) (fun j _ e => .inl e))
  have y2 := (y1.trans k3 (fun j hj e => by omega)).trans k4 (fun j hj e => by omega)
  exact ⟨gb_of_grw y2 (fun j hj e => by omega), (k4.block (Nat.lt_of_lt_of_le hr.lt k3.size) (by omega)).trans ((k3.block hr.lt (by omega)).trans hr)⟩
theorem parts_q (g F : Nat) (s : ByteArray) (room : Int) (t : Tok) (w : World) (hR : Rd g s t.b w) (hE : Env w) (hgN : 4 ≤ g) (hs : s.size ≤ 1000) (htb : t.b ≤ s.size) (hr2 : room ≤ 1000) (hF : 2 * (s.size - t.b) ≤ F) (HV : ValH g F s) :
    Calls Tryz.prog 38 #[.pointer (some ⟨g, 0, none⟩), tkA t, .int .i64 room] w (ValQ g s (paP s.data.toList F room t) w) := by
  have hl := size_l s
  have hgl := hR.lt
  unfold paP
  by_cases h1 : room < 1
  · rw [if_pos h1]
    refine (parts_1 g room (t.k : Int) (t.a : Int) (t.b : Int) t.n (mkS t.t) w h1).mono fun e w' ⟨he, hb⟩ => ?_
    exact ⟨gb_below hb, he, t.b, htb, hR.go hb⟩
  · rw [if_neg h1]
    have HNQ : ∀ V, Grw (fun j => w.heap.size ≤ j) w V → Calls Tryz.prog 16 #[.pointer (some ⟨g, 0, none⟩)] V (TkQ g s (nx s.data.toList t.b) V) := fun V hV => by
      have hb : Below w.heap.size w V := ⟨hV.1, hV.2.1, hV.2.2.1, hV.2.2.2.1, fun k hk => hV.block hk (by omega)⟩
      exact next_q g t.b s V (hR.go hb) (hE.go hb) hs htb
    cases hx : nx s.data.toList t.b with
    | error r =>
      have HN : Hid (∀ V, Grw (fun j => w.heap.size ≤ j) w V → Calls Tryz.prog 16 #[.pointer (some ⟨g, 0, none⟩)] V fun e w' => e = .returned (.tuple #[.agg #[.int .i64 0, .int .i64 0, .int .i64 0, .string ⟨#[]⟩, .int .i64 0], .iface 45 (.agg #[.int .i64 (r.1 : Int), .int .i64 r.2])]) ∧ V.grownBy w' (some g) ∧ (∃ a, a ≤ s.size ∧ Rd g s a w')) := Lib.hid fun V hV => (HNQ V hV).mono fun e w' h => by
        rw [hx] at h
        exact ⟨h.2.1, h.1, h.2.2⟩
      by_cases hk : t.k = 1
      · have := parts_4 g room (t.a : Int) (t.b : Int) t.n (mkS t.t) (r.1 : Int) r.2 w hgl (by omega) hr2 _ HN
        unfold tkA
        rw [hk]
        refine this.mono fun e w' ⟨he, V, k1, w2, k2, ⟨a, ha, hra⟩, w3, k3, k4⟩ => ?_
        obtain ⟨c1, c2⟩ := chain4 hgl k1 k2 hra k3 k4
        exact ⟨c1, he, a, ha, c2⟩
      · refine (parts_2 g room (t.k : Int) (t.a : Int) (t.b : Int) t.n (mkS t.t) (r.1 : Int) r.2 (by omega) w hgl (by omega) hr2 _ HN).mono fun e w' ⟨he, V, k1, w2, k2, ⟨a, ha, hra⟩, w3, k3, k4⟩ => ?_
        obtain ⟨c1, c2⟩ := chain4 hgl k1 k2 hra k3 k4
        exact ⟨c1, he, a, ha, c2⟩
    | ok u =>
      dsimp only
      have hu := nx_ok4 (by omega) hx
      by_cases h2 : u.k = lastK (t.k == 1)
      · rw [if_pos h2]
        have HN : ∀ (kk : Int), (u.k : Int) = kk → Hid (∀ V, Grw (fun j => w.heap.size ≤ j) w V → Calls Tryz.prog 16 #[.pointer (some ⟨g, 0, none⟩)] V fun e w' => e = .returned (.tuple #[.agg #[.int .i64 kk, .int .i64 (u.a : Int), .int .i64 (u.b : Int), .string (mkS u.t), .int .i64 u.n], .nilIface]) ∧ V.grownBy w' (some g) ∧ Rd g s u.b w') := fun kk hkk => Lib.hid fun V hV => (HNQ V hV).mono fun e w' h => by
          rw [hx] at h
          rw [← hkk]
          exact ⟨h.2.1, h.1, h.2.2⟩
        by_cases hk : t.k = 1
        · have hk1 : (t.k == 1) = true := by simp [hk]
          rw [hk1] at h2 ⊢
          have := parts_5 g room (t.a : Int) (t.b : Int) t.n (mkS t.t) (u.a : Int) (u.b : Int) u.n (mkS u.t) w hgl (by omega) hr2 _ (HN 2 (by rw [h2]; rfl))
          unfold tkA
          rw [hk]
          refine this.mono fun e w' ⟨he, V, k1, w2, k2, hra, w3, k3, k4⟩ => ?_
          obtain ⟨c1, c2⟩ := chain4 hgl k1 k2 hra k3 k4
          exact ⟨c1, 5, false, 0, ⟨#[]⟩, none, 0, 0, none, 0, 0, he, rep_leaf _ _ _ _ _ [], c2⟩
        · have hk1 : (t.k == 1) = false := by simp [hk]
          rw [hk1] at h2 ⊢
          refine (parts_3 g room (t.k : Int) (t.a : Int) (t.b : Int) t.n (mkS t.t) (u.a : Int) (u.b : Int) u.n (mkS u.t) (by omega) w hgl (by omega) hr2 _ (HN 4 (by rw [h2]; rfl))).mono fun e w' ⟨he, V, k1, w2, k2, hra, w3, k3, k4⟩ => ?_
          obtain ⟨c1, c2⟩ := chain4 hgl k1 k2 hra k3 k4
          exact ⟨c1, 4, false, 0, ⟨#[]⟩, none, 0, 0, none, 0, 0, he, rep_leaf _ _ _ _ _ [], c2⟩
      · rw [if_neg h2]
        by_cases hk : t.k = 1
        · have hk1 : (t.k == 1) = true := by simp [hk]
          rw [hk1] at h2 ⊢
          exact parts_o g F s room t u w hR hE hgN hs htb hk (by omega) hr2 hx h2 (by omega) HV
        · have hk1 : (t.k == 1) = false := by simp [hk]
          rw [hk1] at h2 ⊢
          exact parts_l g F s room t u w hR hE hgN hs htb hk (by omega) hr2 hx h2 (by omega) HV
end Go.Proofs.YtpgllcdcpdeicaaGreatDoor.Jv
namespace Go.Proofs.YtpgllcdcpdeicaaGreatDoor.Jv
open Jt
open Go.RowKit Go.ChangeMaps Go.MapKept Go.WideMaps
set_option linter.unusedSimpArgs false
set_option linter.unusedVariables false

theorem one_v (w : World) : ∃ W, W = w.alloc (obV 0 false 0 ⟨#[]⟩ none 0 0 none 0 0) ∧ W.heap[w.heap.size]? = some (obV 0 false 0 ⟨#[]⟩ none 0 0 none 0 0) ∧ Below w.heap.size w W := ⟨_, rfl, heap_alloc_new w _, (Below.refl _ _).alloc (Nat.le_refl _) _⟩
theorem bel_grw {B r : Nat} {w V V' : World} (hb : Below B w V) (hG : Grw (fun j => j = r) V V') (hr : B ≤ r) (hB : B ≤ V.heap.size) : Below B w V' := hb.trans ⟨hG.1, hG.2.1, hG.2.2.1, hG.2.2.2.1, fun j hj => hG.block (by omega) (by omega)⟩
set_option maxHeartbeats 1000000 in
theorem OfText_c (tx : ByteArray) (w : World) : Calls Tryz.prog 37 #[.string tx] w fun e w' => e = .returned (.agg #[.int .i64 3, .bool false, .int .i64 0, .string tx, .slice none 0 0, .slice none 0 0]) ∧ Below w.heap.size w w' := by
  obtain ⟨W0, hW0, hk0, hb0⟩ := one_v w
  have HW0 := Lib.hid hW0
  have HB0 := Lib.hid hb0
  have HK0 := Lib.hid hk0
  clear hW0 hb0 hk0
  obtain ⟨u0, u1, u2, u3, u4, u5⟩ := cells6 HK0.out
  have z0 := frz HK0.out 0
  have z1 := frz HK0.out 1
  have z2 := frz HK0.out 2
  have z3 := frz HK0.out 3
  have z4 := frz HK0.out 4
  have z5 := frz HK0.out 5
  have HH := Lib.hid (set6 HK0.out (.int .i64 3) (.bool false) (.int .i64 0) (.string tx) (.slice none 0 0) (.slice none 0 0))
  have HZ := Lib.hid (gr_set6 W0 w.heap.size (.int .i64 3) (.bool false) (.int .i64 0) (.string tx) (.slice none 0 0) (.slice none 0 0))
  go_enter Tryz.func37, Tryz.ntmps37
  go_upto_region 1 with (fail)
  rw [← HW0.out]
  go_wp2_with fail
  obtain ⟨d0, d1, d2, d3, d4, d5⟩ := cells6 HH.out
  clear u0 u1 u2 u3 u4 u5 z0 z1 z2 z3 z4 z5
  (with_reducible refine bodyPost_ret (v := .agg #[.int .i64 3, .bool false, .int .i64 0, .string tx, .slice none 0 0, .slice none 0 0]) (by simp [results, Tryz.results37, go_sem, d0, d1, d2, d3, d4, d5]) rfl ⟨rfl, ?_⟩)
  exact bel_grw HB0.out HZ.out (Nat.le_refl _) HB0.out.size
set_option maxHeartbeats 1000000 in
theorem OfNumber_c (n : Int) (w : World) : Calls Tryz.prog 36 #[.int .i64 n] w fun e w' => e = .returned (.agg #[.int .i64 2, .bool false, .int .i64 n, .string ⟨#[]⟩, .slice none 0 0, .slice none 0 0]) ∧ Below w.heap.size w w' := by
  obtain ⟨W0, hW0, hk0, hb0⟩ := one_v w
  have HW0 := Lib.hid hW0
  have HB0 := Lib.hid hb0
  have HK0 := Lib.hid hk0
  clear hW0 hb0 hk0
  obtain ⟨u0, u1, u2, u3, u4, u5⟩ := cells6 HK0.out
  have z0 := frz HK0.out 0
  have z1 := frz HK0.out 1
  have z2 := frz HK0.out 2
  have z3 := frz HK0.out 3
  have z4 := frz HK0.out 4
  have z5 := frz HK0.out 5
  have HH := Lib.hid (set6 HK0.out (.int .i64 2) (.bool false) (.int .i64 n) (.string ⟨#[]⟩) (.slice none 0 0) (.slice none 0 0))
  have HZ := Lib.hid (gr_set6 W0 w.heap.size (.int .i64 2) (.bool false) (.int .i64 n) (.string ⟨#[]⟩) (.slice none 0 0) (.slice none 0 0))
  go_enter Tryz.func36, Tryz.ntmps36
  go_upto_region 1 with (fail)
  rw [← HW0.out]
  go_wp2_with fail
  obtain ⟨d0, d1, d2, d3, d4, d5⟩ := cells6 HH.out
  clear u0 u1 u2 u3 u4 u5 z0 z1 z2 z3 z4 z5
  (with_reducible refine bodyPost_ret (v := .agg #[.int .i64 2, .bool false, .int .i64 n, .string ⟨#[]⟩, .slice none 0 0, .slice none 0 0]) (by simp [results, Tryz.results36, go_sem, d0, d1, d2, d3, d4, d5]) rfl ⟨rfl, ?_⟩)
  exact bel_grw HB0.out HZ.out (Nat.le_refl _) HB0.out.size
set_option maxHeartbeats 1000000 in
theorem OfBool_c (b : Bool) (w : World) : Calls Tryz.prog 35 #[.bool b] w fun e w' => e = .returned (.agg #[.int .i64 1, .bool b, .int .i64 0, .string ⟨#[]⟩, .slice none 0 0, .slice none 0 0]) ∧ Below w.heap.size w w' := by
  obtain ⟨W0, hW0, hk0, hb0⟩ := one_v w
  have HW0 := Lib.hid hW0
  have HB0 := Lib.hid hb0
  have HK0 := Lib.hid hk0
  clear hW0 hb0 hk0
  obtain ⟨u0, u1, u2, u3, u4, u5⟩ := cells6 HK0.out
  have z0 := frz HK0.out 0
  have z1 := frz HK0.out 1
  have z2 := frz HK0.out 2
  have z3 := frz HK0.out 3
  have z4 := frz HK0.out 4
  have z5 := frz HK0.out 5
  have HH := Lib.hid (set6 HK0.out (.int .i64 1) (.bool b) (.int .i64 0) (.string ⟨#[]⟩) (.slice none 0 0) (.slice none 0 0))
  have HZ := Lib.hid (gr_set6 W0 w.heap.size (.int .i64 1) (.bool b) (.int .i64 0) (.string ⟨#[]⟩) (.slice none 0 0) (.slice none 0 0))
  go_enter Tryz.func35, Tryz.ntmps35
  go_upto_region 1 with (fail)
  rw [← HW0.out]
  go_wp2_with fail
  obtain ⟨d0, d1, d2, d3, d4, d5⟩ := cells6 HH.out
  clear u0 u1 u2 u3 u4 u5 z0 z1 z2 z3 z4 z5
  (with_reducible refine bodyPost_ret (v := .agg #[.int .i64 1, .bool b, .int .i64 0, .string ⟨#[]⟩, .slice none 0 0, .slice none 0 0]) (by simp [results, Tryz.results35, go_sem, d0, d1, d2, d3, d4, d5]) rfl ⟨rfl, ?_⟩)
  exact bel_grw HB0.out HZ.out (Nat.le_refl _) HB0.out.size
end Go.Proofs.YtpgllcdcpdeicaaGreatDoor.Jv
namespace Go.Proofs.YtpgllcdcpdeicaaGreatDoor.Jv
open Jt
open Go.RowKit Go.ChangeMaps Go.MapKept Go.WideMaps
set_option linter.unusedSimpArgs false
set_option linter.unusedVariables false

set_option maxRecDepth 100000 in
set_option maxHeartbeats 2000000 in
theorem va_null (g : Nat) (room ta tb tn : Int) (tx : ByteArray) (w : World) :
    Calls Tryz.prog 17 #[.pointer (some ⟨g, 0, none⟩), .agg #[.int .i64 11, .int .i64 ta, .int .i64 tb, .string tx, .int .i64 tn], .int .i64 room] w fun e w' => e = .returned (.tuple #[.agg #[.int .i64 0, .bool false, .int .i64 0, .string ⟨#[]⟩, .slice none 0 0, .slice none 0 0], .nilIface]) ∧ Below w.heap.size w w' := by
  obtain ⟨W0, hW0, hk0, hr0, hb0, hz0⟩ := two_it w 11 ta tb tx tn
  have HW0 := Lib.hid hW0
  have HK0 := Lib.hid hk0
  have HR0 := Lib.hid hr0
  have HB0 := Lib.hid hb0
  clear hW0 hk0 hr0 hb0
  go_enter Tryz.func17, Tryz.ntmps17
  go_upto_region 1 with (fail)
  rw [← HW0.out]
  obtain ⟨a0, a1, a2, a3, a4⟩ := cells5 HK0.out
  obtain ⟨u0, u1, u2, u3, u4, u5⟩ := cells6 HR0.out
  have z0 := frz HR0.out 0
  have z1 := frz HR0.out 1
  have z2 := frz HR0.out 2
  have z3 := frz HR0.out 3
  have z4 := frz HR0.out 4
  have z5 := frz HR0.out 5
  have HH := Lib.hid (set6 HR0.out (.int .i64 0) (.bool false) (.int .i64 0) (.string ⟨#[]⟩) (.slice none 0 0) (.slice none 0 0))
  have HZ := Lib.hid (gr_set6 W0 (w.heap.size + 1) (.int .i64 0) (.bool false) (.int .i64 0) (.string ⟨#[]⟩) (.slice none 0 0) (.slice none 0 0))
  go_wp2_with fail
  obtain ⟨d0, d1, d2, d3, d4, d5⟩ := cells6 HH.out
  clear u0 u1 u2 u3 u4 u5 z0 z1 z2 z3 z4 z5 a0 a1 a2 a3 a4
  (with_reducible refine bodyPost_ret (v := .tuple #[.agg #[.int .i64 0, .bool false, .int .i64 0, .string ⟨#[]⟩, .slice none 0 0, .slice none 0 0], .nilIface]) (by simp [results, Tryz.results17, go_sem, d0, d1, d2, d3, d4, d5]) rfl ?_)
  exact ⟨rfl, bel_grw HB0.out HZ.out (by omega) HB0.out.size⟩
set_option maxRecDepth 100000 in
set_option maxHeartbeats 2000000 in
theorem va_true (g : Nat) (room ta tb tn : Int) (tx : ByteArray) (w : World) :
    Calls Tryz.prog 17 #[.pointer (some ⟨g, 0, none⟩), .agg #[.int .i64 9, .int .i64 ta, .int .i64 tb, .string tx, .int .i64 tn], .int .i64 room] w fun e w' => e = .returned (.tuple #[.agg #[.int .i64 1, .bool true, .int .i64 0, .string ⟨#[]⟩, .slice none 0 0, .slice none 0 0], .nilIface]) ∧ Below w.heap.size w w' := by
  obtain ⟨W0, hW0, hk0, hr0, hb0, hz0⟩ := two_it w 9 ta tb tx tn
  have HW0 := Lib.hid hW0
  have HK0 := Lib.hid hk0
  have HR0 := Lib.hid hr0
  have HB0 := Lib.hid hb0
  clear hW0 hk0 hr0 hb0
  go_enter Tryz.func17, Tryz.ntmps17
  go_upto_region 1 with (fail)
  rw [← HW0.out]
  obtain ⟨a0, a1, a2, a3, a4⟩ := cells5 HK0.out
  go_wp2_with fail
  (with_reducible refine (OfBool_c true W0).mono ?_)
  rintro e w2 ⟨rfl, hb2⟩
  have HR2 : Hid (w2.heap[w.heap.size + 1]? = some (obV 0 false 0 ⟨#[]⟩ none 0 0 none 0 0)) := (hb2.block _ (by omega)).trans HR0.out
  have HB2 : Hid (Below w.heap.size w w2) := HB0.out.trans (hb2.mono HB0.out.size)
  clear hb2
  obtain ⟨u0, u1, u2, u3, u4, u5⟩ := cells6 HR2.out
  have z0 := frz HR2.out 0
  have z1 := frz HR2.out 1
  have z2 := frz HR2.out 2
  have z3 := frz HR2.out 3
  have z4 := frz HR2.out 4
  have z5 := frz HR2.out 5
  have HH := Lib.hid (set6 HR2.out (.int .i64 1) (.bool true) (.int .i64 0) (.string ⟨#[]⟩) (.slice none 0 0) (.slice none 0 0))
  have HZ := Lib.hid (gr_set6 w2 (w.heap.size + 1) (.int .i64 1) (.bool true) (.int .i64 0) (.string ⟨#[]⟩) (.slice none 0 0) (.slice none 0 0))
  go_wp2_with fail
  obtain ⟨d0, d1, d2, d3, d4, d5⟩ := cells6 HH.out
  clear u0 u1 u2 u3 u4 u5 z0 z1 z2 z3 z4 z5 a0 a1 a2 a3 a4
  (with_reducible refine bodyPost_ret (v := .tuple #[.agg #[.int .i64 1, .bool true, .int .i64 0, .string ⟨#[]⟩, .slice none 0 0, .slice none 0 0], .nilIface]) (by simp [results, Tryz.results17, go_sem, d0, d1, d2, d3, d4, d5]) rfl ?_)
  exact ⟨rfl, bel_grw HB2.out HZ.out (by omega) HB2.out.size⟩
set_option maxRecDepth 100000 in
set_option maxHeartbeats 2000000 in
theorem va_false (g : Nat) (room ta tb tn : Int) (tx : ByteArray) (w : World) :
    Calls Tryz.prog 17 #[.pointer (some ⟨g, 0, none⟩), .agg #[.int .i64 10, .int .i64 ta, .int .i64 tb, .string tx, .int .i64 tn], .int .i64 room] w fun e w' => e = .returned (.tuple #[.agg #[.int .i64 1, .bool false, .int .i64 0, .string ⟨#[]⟩, .slice none 0 0, .slice none 0 0], .nilIface]) ∧ Below w.heap.size w w' := by
  obtain ⟨W0, hW0, hk0, hr0, hb0, hz0⟩ := two_it w 10 ta tb tx tn
  have HW0 := Lib.hid hW0
  have HK0 := Lib.hid hk0
  have HR0 := Lib.hid hr0
  have HB0 := Lib.hid hb0
  clear hW0 hk0 hr0 hb0
  go_enter Tryz.func17, Tryz.ntmps17
  go_upto_region 1 with (fail)
  rw [← HW0.out]
  obtain ⟨a0, a1, a2, a3, a4⟩ := cells5 HK0.out
  go_wp2_with fail
  (with_reducible refine (OfBool_c false W0).mono ?_)
  rintro e w2 ⟨rfl, hb2⟩
  have HR2 : Hid (w2.heap[w.heap.size + 1]? = some (obV 0 false 0 ⟨#[]⟩ none 0 0 none 0 0)) := (hb2.block _ (by omega)).trans HR0.out
  have HB2 : Hid (Below w.heap.size w w2) := HB0.out.trans (hb2.mono HB0.out.size)
  clear hb2
  obtain ⟨u0, u1, u2, u3, u4, u5⟩ := cells6 HR2.out
  have z0 := frz HR2.out 0
  have z1 := frz HR2.out 1
  have z2 := frz HR2.out 2
  have z3 := frz HR2.out 3
  have z4 := frz HR2.out 4
  have z5 := frz HR2.out 5
  have HH := Lib.hid (set6 HR2.out (.int .i64 1) (.bool false) (.int .i64 0) (.string ⟨#[]⟩) (.slice none 0 0) (.slice none 0 0))
  have HZ := Lib.hid (gr_set6 w2 (w.heap.size + 1) (.int .i64 1) (.bool false) (.int .i64 0) (.string ⟨#[]⟩) (.slice none 0 0) (.slice none 0 0))
  go_wp2_with fail
  obtain ⟨d0, d1, d2, d3, d4, d5⟩ := cells6 HH.out
  clear u0 u1 u2 u3 u4 u5 z0 z1 z2 z3 z4 z5 a0 a1 a2 a3 a4
  (with_reducible refine bodyPost_ret (v := .tuple #[.agg #[.int .i64 1, .bool false, .int .i64 0, .string ⟨#[]⟩, .slice none 0 0, .slice none 0 0], .nilIface]) (by simp [results, Tryz.results17, go_sem, d0, d1, d2, d3, d4, d5]) rfl ?_)
  exact ⟨rfl, bel_grw HB2.out HZ.out (by omega) HB2.out.size⟩
set_option maxRecDepth 100000 in
set_option maxHeartbeats 2000000 in
theorem va_num (g : Nat) (room ta tb tn : Int) (tx : ByteArray) (w : World) :
    Calls Tryz.prog 17 #[.pointer (some ⟨g, 0, none⟩), .agg #[.int .i64 8, .int .i64 ta, .int .i64 tb, .string tx, .int .i64 tn], .int .i64 room] w fun e w' => e = .returned (.tuple #[.agg #[.int .i64 2, .bool false, .int .i64 tn, .string ⟨#[]⟩, .slice none 0 0, .slice none 0 0], .nilIface]) ∧ Below w.heap.size w w' := by
  obtain ⟨W0, hW0, hk0, hr0, hb0, hz0⟩ := two_it w 8 ta tb tx tn
  have HW0 := Lib.hid hW0
  have HK0 := Lib.hid hk0
  have HR0 := Lib.hid hr0
  have HB0 := Lib.hid hb0
  clear hW0 hk0 hr0 hb0
  go_enter Tryz.func17, Tryz.ntmps17
  go_upto_region 1 with (fail)
  rw [← HW0.out]
  obtain ⟨a0, a1, a2, a3, a4⟩ := cells5 HK0.out
  go_wp2_with fail
  (with_reducible refine (OfNumber_c tn W0).mono ?_)
  rintro e w2 ⟨rfl, hb2⟩
  have HR2 : Hid (w2.heap[w.heap.size + 1]? = some (obV 0 false 0 ⟨#[]⟩ none 0 0 none 0 0)) := (hb2.block _ (by omega)).trans HR0.out
  have HB2 : Hid (Below w.heap.size w w2) := HB0.out.trans (hb2.mono HB0.out.size)
  clear hb2
  obtain ⟨u0, u1, u2, u3, u4, u5⟩ := cells6 HR2.out
  have z0 := frz HR2.out 0
  have z1 := frz HR2.out 1
  have z2 := frz HR2.out 2
  have z3 := frz HR2.out 3
  have z4 := frz HR2.out 4
  have z5 := frz HR2.out 5
  have HH := Lib.hid (set6 HR2.out (.int .i64 2) (.bool false) (.int .i64 tn) (.string ⟨#[]⟩) (.slice none 0 0) (.slice none 0 0))
  have HZ := Lib.hid (gr_set6 w2 (w.heap.size + 1) (.int .i64 2) (.bool false) (.int .i64 tn) (.string ⟨#[]⟩) (.slice none 0 0) (.slice none 0 0))
  go_wp2_with fail
  obtain ⟨d0, d1, d2, d3, d4, d5⟩ := cells6 HH.out
  clear u0 u1 u2 u3 u4 u5 z0 z1 z2 z3 z4 z5 a0 a1 a2 a3 a4
  (with_reducible refine bodyPost_ret (v := .tuple #[.agg #[.int .i64 2, .bool false, .int .i64 tn, .string ⟨#[]⟩, .slice none 0 0, .slice none 0 0], .nilIface]) (by simp [results, Tryz.results17, go_sem, d0, d1, d2, d3, d4, d5]) rfl ?_)
  exact ⟨rfl, bel_grw HB2.out HZ.out (by omega) HB2.out.size⟩
set_option maxRecDepth 100000 in
set_option maxHeartbeats 2000000 in
theorem va_text (g : Nat) (room ta tb tn : Int) (tx : ByteArray) (w : World) :
    Calls Tryz.prog 17 #[.pointer (some ⟨g, 0, none⟩), .agg #[.int .i64 7, .int .i64 ta, .int .i64 tb, .string tx, .int .i64 tn], .int .i64 room] w fun e w' => e = .returned (.tuple #[.agg #[.int .i64 3, .bool false, .int .i64 0, .string tx, .slice none 0 0, .slice none 0 0], .nilIface]) ∧ Below w.heap.size w w' := by
  obtain ⟨W0, hW0, hk0, hr0, hb0, hz0⟩ := two_it w 7 ta tb tx tn
  have HW0 := Lib.hid hW0
  have HK0 := Lib.hid hk0
  have HR0 := Lib.hid hr0
  have HB0 := Lib.hid hb0
  clear hW0 hk0 hr0 hb0
  go_enter Tryz.func17, Tryz.ntmps17
  go_upto_region 1 with (fail)
  rw [← HW0.out]
  obtain ⟨a0, a1, a2, a3, a4⟩ := cells5 HK0.out
  go_wp2_with fail
  (with_reducible refine (OfText_c tx W0).mono ?_)
  rintro e w2 ⟨rfl, hb2⟩
  have HR2 : Hid (w2.heap[w.heap.size + 1]? = some (obV 0 false 0 ⟨#[]⟩ none 0 0 none 0 0)) := (hb2.block _ (by omega)).trans HR0.out
  have HB2 : Hid (Below w.heap.size w w2) := HB0.out.trans (hb2.mono HB0.out.size)
  clear hb2
  obtain ⟨u0, u1, u2, u3, u4, u5⟩ := cells6 HR2.out
  have z0 := frz HR2.out 0
  have z1 := frz HR2.out 1
  have z2 := frz HR2.out 2
  have z3 := frz HR2.out 3
  have z4 := frz HR2.out 4
  have z5 := frz HR2.out 5
  have HH := Lib.hid (set6 HR2.out (.int .i64 3) (.bool false) (.int .i64 0) (.string tx) (.slice none 0 0) (.slice none 0 0))
  have HZ := Lib.hid (gr_set6 w2 (w.heap.size + 1) (.int .i64 3) (.bool false) (.int .i64 0) (.string tx) (.slice none 0 0) (.slice none 0 0))
  go_wp2_with fail
  obtain ⟨d0, d1, d2, d3, d4, d5⟩ := cells6 HH.out
  clear u0 u1 u2 u3 u4 u5 z0 z1 z2 z3 z4 z5 a0 a1 a2 a3 a4
  (with_reducible refine bodyPost_ret (v := .tuple #[.agg #[.int .i64 3, .bool false, .int .i64 0, .string tx, .slice none 0 0, .slice none 0 0], .nilIface]) (by simp [results, Tryz.results17, go_sem, d0, d1, d2, d3, d4, d5]) rfl ?_)
  exact ⟨rfl, bel_grw HB2.out HZ.out (by omega) HB2.out.size⟩
set_option maxRecDepth 100000 in
set_option maxHeartbeats 2000000 in
theorem va_open (g : Nat) (room ta tb tn : Int) (tx : ByteArray) (w : World) (hgl : g < w.heap.size) (P : World → World → List Value → Value → Prop)
    (HP : Hid (∀ V, Below w.heap.size w V → V.heap.size = w.heap.size + 2 → Calls Tryz.prog 38 #[.pointer (some ⟨g, 0, none⟩), .agg #[.int .i64 1, .int .i64 ta, .int .i64 tb, .string tx, .int .i64 tn], .int .i64 room] V fun e w' => ∃ xk xb xn xt xo xl xq yo yl yq er, e = .returned (.tuple #[.agg #[.int .i64 xk, .bool xb, .int .i64 xn, .string xt, .slice xo xl xq, .slice yo yl yq], er]) ∧ V.grownBy w' (some g) ∧ P V w' (c6 xk xb xn xt xo xl xq yo yl yq) er)) :
    Calls Tryz.prog 17 #[.pointer (some ⟨g, 0, none⟩), .agg #[.int .i64 1, .int .i64 ta, .int .i64 tb, .string tx, .int .i64 tn], .int .i64 room] w fun e w' => ∃ V, Below w.heap.size w V ∧ V.heap.size = w.heap.size + 2 ∧ ∃ w2, V.grownBy w2 (some g) ∧ Grw (fun j => j = w.heap.size + 1) w2 w' ∧ ∃ xk xb xn xt xo xl xq yo yl yq er, e = .returned (.tuple #[.agg #[.int .i64 xk, .bool xb, .int .i64 xn, .string xt, .slice xo xl xq, .slice yo yl yq], er]) ∧ P V w2 (c6 xk xb xn xt xo xl xq yo yl yq) er := by
  have HGL := Lib.hid hgl
  clear hgl
  obtain ⟨W0, hW0, hk0, hr0, hb0, hz0⟩ := two_it w 1 ta tb tx tn
  have HW0 := Lib.hid hW0
  have HK0 := Lib.hid hk0
  have HR0 := Lib.hid hr0
  have HB0 := Lib.hid hb0
  clear hW0 hk0 hr0 hb0
  go_enter Tryz.func17, Tryz.ntmps17
  go_upto_region 1 with (fail)
  rw [← HW0.out]
  obtain ⟨a0, a1, a2, a3, a4⟩ := cells5 HK0.out
  go_wp2_with fail
  (with_reducible refine (HP.out W0 HB0.out hz0).mono ?_)
  rintro e w2 ⟨xk, xb, xn, xt, xo, xl, xq, yo, yl, yq, er, rfl, hg2, hp2⟩
  have HG2 := Lib.hid hg2
  have HP2 := Lib.hid hp2
  have HR2 : Hid (w2.heap[w.heap.size + 1]? = some (obV 0 false 0 ⟨#[]⟩ none 0 0 none 0 0)) := (hg2.block _ (by omega) (fun e => by injection e with e; have := HGL.out; omega)).trans HR0.out
  clear hg2 hp2
  obtain ⟨u0, u1, u2, u3, u4, u5⟩ := cells6 HR2.out
  have z0 := frz HR2.out 0
  have z1 := frz HR2.out 1
  have z2 := frz HR2.out 2
  have z3 := frz HR2.out 3
  have z4 := frz HR2.out 4
  have z5 := frz HR2.out 5
  have HH := Lib.hid (set6 HR2.out (.int .i64 xk) (.bool xb) (.int .i64 xn) (.string xt) (.slice xo xl xq) (.slice yo yl yq))
  have HZ := Lib.hid (gr_set6 w2 (w.heap.size + 1) (.int .i64 xk) (.bool xb) (.int .i64 xn) (.string xt) (.slice xo xl xq) (.slice yo yl yq))
  go_wp2_with fail
  obtain ⟨d0, d1, d2, d3, d4, d5⟩ := cells6 HH.out
  clear u0 u1 u2 u3 u4 u5 z0 z1 z2 z3 z4 z5 a0 a1 a2 a3 a4
  (with_reducible refine bodyPost_ret (v := .tuple #[.agg #[.int .i64 xk, .bool xb, .int .i64 xn, .string xt, .slice xo xl xq, .slice yo yl yq], er]) (by simp [results, Tryz.results17, go_sem, d0, d1, d2, d3, d4, d5]) rfl ?_)
  (with_reducible exact ⟨W0, HB0.out, hz0, w2, HG2.out, HZ.out, xk, xb, xn, xt, xo, xl, xq, yo, yl, yq, er, rfl, HP2.out⟩)
set_option maxRecDepth 100000 in
set_option maxHeartbeats 2000000 in
theorem va_list (g : Nat) (room ta tb tn : Int) (tx : ByteArray) (w : World) (hgl : g < w.heap.size) (P : World → World → List Value → Value → Prop)
    (HP : Hid (∀ V, Below w.heap.size w V → V.heap.size = w.heap.size + 2 → Calls Tryz.prog 38 #[.pointer (some ⟨g, 0, none⟩), .agg #[.int .i64 3, .int .i64 ta, .int .i64 tb, .string tx, .int .i64 tn], .int .i64 room] V fun e w' => ∃ xk xb xn xt xo xl xq yo yl yq er, e = .returned (.tuple #[.agg #[.int .i64 xk, .bool xb, .int .i64 xn, .string xt, .slice xo xl xq, .slice yo yl yq], er]) ∧ V.grownBy w' (some g) ∧ P V w' (c6 xk xb xn xt xo xl xq yo yl yq) er)) :
    Calls Tryz.prog 17 #[.pointer (some ⟨g, 0, none⟩), .agg #[.int .i64 3, .int .i64 ta, .int .i64 tb, .string tx, .int .i64 tn], .int .i64 room] w fun e w' => ∃ V, Below w.heap.size w V ∧ V.heap.size = w.heap.size + 2 ∧ ∃ w2, V.grownBy w2 (some g) ∧ Grw (fun j => j = w.heap.size + 1) w2 w' ∧ ∃ xk xb xn xt xo xl xq yo yl yq er, e = .returned (.tuple #[.agg #[.int .i64 xk, .bool xb, .int .i64 xn, .string xt, .slice xo xl xq, .slice yo yl yq], er]) ∧ P V w2 (c6 xk xb xn xt xo xl xq yo yl yq) er := by
  have HGL := Lib.hid hgl
  clear hgl
  obtain ⟨W0, hW0, hk0, hr0, hb0, hz0⟩ := two_it w 3 ta tb tx tn
  have HW0 := Lib.hid hW0
  have HK0 := Lib.hid hk0
  have HR0 := Lib.hid hr0
  have HB0 := Lib.hid hb0
  clear hW0 hk0 hr0 hb0
  go_enter Tryz.func17, Tryz.ntmps17
  go_upto_region 1 with (fail)
  rw [← HW0.out]
  obtain ⟨a0, a1, a2, a3, a4⟩ := cells5 HK0.out
  go_wp2_with fail
  (with_reducible refine (HP.out W0 HB0.out hz0).mono ?_)
  rintro e w2 ⟨xk, xb, xn, xt, xo, xl, xq, yo, yl, yq, er, rfl, hg2, hp2⟩
  have HG2 := Lib.hid hg2
  have HP2 := Lib.hid hp2
  have HR2 : Hid (w2.heap[w.heap.size + 1]? = some (obV 0 false 0 ⟨#[]⟩ none 0 0 none 0 0)) := (hg2.block _ (by omega) (fun e => by injection e with e; have := HGL.out; omega)).trans HR0.out
  clear hg2 hp2
  obtain ⟨u0, u1, u2, u3, u4, u5⟩ := cells6 HR2.out
  have z0 := frz HR2.out 0
  have z1 := frz HR2.out 1
  have z2 := frz HR2.out 2
  have z3 := frz HR2.out 3
  have z4 := frz HR2.out 4
  have z5 := frz HR2.out 5
  have HH := Lib.hid (set6 HR2.out (.int .i64 xk) (.bool xb) (.int .i64 xn) (.string xt) (.slice xo xl xq) (.slice yo yl yq))
  have HZ := Lib.hid (gr_set6 w2 (w.heap.size + 1) (.int .i64 xk) (.bool xb) (.int .i64 xn) (.string xt) (.slice xo xl xq) (.slice yo yl yq))
  go_wp2_with fail
  obtain ⟨d0, d1, d2, d3, d4, d5⟩ := cells6 HH.out
  clear u0 u1 u2 u3 u4 u5 z0 z1 z2 z3 z4 z5 a0 a1 a2 a3 a4
  (with_reducible refine bodyPost_ret (v := .tuple #[.agg #[.int .i64 xk, .bool xb, .int .i64 xn, .string xt, .slice xo xl xq, .slice yo yl yq], er]) (by simp [results, Tryz.results17, go_sem, d0, d1, d2, d3, d4, d5]) rfl ?_)
  (with_reducible exact ⟨W0, HB0.out, hz0, w2, HG2.out, HZ.out, xk, xb, xn, xt, xo, xl, xq, yo, yl, yq, er, rfl, HP2.out⟩)
set_option maxRecDepth 100000 in
set_option maxHeartbeats 2000000 in
theorem va_bad (g : Nat) (room ta tb tn : Int) (tx : ByteArray) (w : World) (k : Int) (hk : k ≠ 11 ∧ k ≠ 9 ∧ k ≠ 10 ∧ k ≠ 8 ∧ k ≠ 7 ∧ k ≠ 1 ∧ k ≠ 3) :
    Calls Tryz.prog 17 #[.pointer (some ⟨g, 0, none⟩), .agg #[.int .i64 k, .int .i64 ta, .int .i64 tb, .string tx, .int .i64 tn], .int .i64 room] w fun e w' => e = .returned (.tuple #[.agg #[.int .i64 0, .bool false, .int .i64 0, .string ⟨#[]⟩, .slice none 0 0, .slice none 0 0], .iface 45 (.agg #[.int .i64 ta, .int .i64 3])]) ∧ Below w.heap.size w w' := by
  obtain ⟨W0, hW0, hk0, hr0, hb0, hz0⟩ := two_it w k ta tb tx tn
  have HW0 := Lib.hid hW0
  have HK0 := Lib.hid hk0
  have HR0 := Lib.hid hr0
  have HB0 := Lib.hid hb0
  clear hW0 hk0 hr0 hb0
  obtain ⟨h1, h2, h3, h4, h5, h6, h7⟩ := hk
  have e1 : (k == 11) = false := by simpa using h1
  have e2 : (k == 9) = false := by simpa using h2
  have e3 : (k == 10) = false := by simpa using h3
  have e4 : (k == 8) = false := by simpa using h4
  have e5 : (k == 7) = false := by simpa using h5
  have e6 : (k == 1) = false := by simpa using h6
  have e7 : (k == 3) = false := by simpa using h7
  clear h1 h2 h3 h4 h5 h6 h7
  go_enter Tryz.func17, Tryz.ntmps17
  go_upto_region 1 with (fail)
  rw [← HW0.out]
  obtain ⟨a0, a1, a2, a3, a4⟩ := cells5 HK0.out
  go_wp2_with fail
  (with_reducible refine (unfit_c k ta tb tn tx W0).mono ?_)
  rintro e w2 ⟨rfl, hb2⟩
  have HR2 : Hid (w2.heap[w.heap.size + 1]? = some (obV 0 false 0 ⟨#[]⟩ none 0 0 none 0 0)) := (hb2.block _ (by omega)).trans HR0.out
  have HB2 : Hid (Below w.heap.size w w2) := HB0.out.trans (hb2.mono HB0.out.size)
  clear hb2
  obtain ⟨u0, u1, u2, u3, u4, u5⟩ := cells6 HR2.out
  have z0 := frz HR2.out 0
  have z1 := frz HR2.out 1
  have z2 := frz HR2.out 2
  have z3 := frz HR2.out 3
  have z4 := frz HR2.out 4
  have z5 := frz HR2.out 5
  have HH := Lib.hid (set6 HR2.out (.int .i64 0) (.bool false) (.int .i64 0) (.string ⟨#[]⟩) (.slice none 0 0) (.slice none 0 0))
  have HZ := Lib.hid (gr_set6 w2 (w.heap.size + 1) (.int .i64 0) (.bool false) (.int .i64 0) (.string ⟨#[]⟩) (.slice none 0 0) (.slice none 0 0))
  go_wp2_with fail
  obtain ⟨d0, d1, d2, d3, d4, d5⟩ := cells6 HH.out
  clear u0 u1 u2 u3 u4 u5 z0 z1 z2 z3 z4 z5 a0 a1 a2 a3 a4
  (with_reducible refine bodyPost_ret (v := .tuple #[.agg #[.int .i64 0, .bool false, .int .i64 0, .string ⟨#[]⟩, .slice none 0 0, .slice none 0 0], .iface 45 (.agg #[.int .i64 ta, .int .i64 3])]) (by simp [results, Tryz.results17, go_sem, d0, d1, d2, d3, d4, d5]) rfl ?_)
  exact ⟨rfl, bel_grw HB2.out HZ.out (by omega) HB2.out.size⟩
end Go.Proofs.YtpgllcdcpdeicaaGreatDoor.Jv
namespace Go.Proofs.YtpgllcdcpdeicaaGreatDoor.Jv
open Jt
open Go.RowKit Go.ChangeMaps Go.MapKept Go.WideMaps
set_option linter.unusedSimpArgs false
set_option linter.unusedVariables false

theorem fin_leaf {g p : Nat} {s : ByteArray} {w V : World} (hR : Rd g s p w) (hb : Below w.heap.size w V) (k : Int) (is : Bool) (n : Int) (t : List UInt8) {tx : ByteArray} (ht : tx = mkS t) : ValQ g s (.ok (.mk k is n t [] [], p)) w (.returned (.tuple #[.agg #[.int .i64 k, .bool is, .int .i64 n, .string tx, .slice none 0 0, .slice none 0 0], .nilIface])) V := by
  subst ht
  exact ⟨gb_below hb, k, is, n, mkS t, none, 0, 0, none, 0, 0, rfl, rep_leaf _ _ _ _ _ t, hR.go hb⟩
theorem pv_parts {l : List UInt8} {F : Nat} {room : Int} {t : Tok} (hk : t.k = 1 ∨ t.k = 3) : pv l (F + 1) room t = paP l F room t := by
  rw [pv]
  unfold paP
  rw [if_neg (by omega), if_neg (by omega), if_neg (by omega), if_neg (by omega), if_pos hk]
  by_cases h : room < 1
  · rw [if_pos h, if_pos h]
  · rw [if_neg h, if_neg h]
    cases nx l t.b <;> rfl
/-- what ValQ says, its six cells and its error named -/
def ValP (g : Nat) (s : ByteArray) (x : Except Er (JV × Nat)) (V w2 : World) (l : List Value) (er : Value) : Prop := match x with
  | .ok r => er = .nilIface ∧ Rep (fun k => V.heap.size ≤ k) w2 r.1 l ∧ Rd g s r.2 w2
  | .error r => l = c6 0 false 0 ⟨#[]⟩ none 0 0 none 0 0 ∧ er = fauV r ∧ ∃ a, a ≤ s.size ∧ Rd g s a w2
theorem valq_p {g : Nat} {s : ByteArray} {x : Except Er (JV × Nat)} {V w' : World} {e : Ending} (h : ValQ g s x V e w') : ∃ xk xb xn xt xo xl xq yo yl yq er, e = .returned (.tuple #[.agg #[.int .i64 xk, .bool xb, .int .i64 xn, .string xt, .slice xo xl xq, .slice yo yl yq], er]) ∧ V.grownBy w' (some g) ∧ ValP g s x V w' (c6 xk xb xn xt xo xl xq yo yl yq) er := by
  cases x with
  | error r =>
    obtain ⟨h1, h2, h3⟩ := h
    exact ⟨0, false, 0, ⟨#[]⟩, none, 0, 0, none, 0, 0, fauV r, h2, h1, rfl, rfl, h3⟩
  | ok r =>
    obtain ⟨h1, xk, xb, xn, xt, xo, xl, xq, yo, yl, yq, h2, h3, h4⟩ := h
    exact ⟨xk, xb, xn, xt, xo, xl, xq, yo, yl, yq, .nilIface, h2, h1, rfl, h3, h4⟩
theorem valp_q {g : Nat} {s : ByteArray} {x : Except Er (JV × Nat)} {w V w2 w' : World} (hgl : g < w.heap.size) (hb : Below w.heap.size w V) (hz : V.heap.size = w.heap.size + 2) (h2 : V.grownBy w2 (some g)) (h3 : Grw (fun j => j = w.heap.size + 1) w2 w') {xk : Int} {xb : Bool} {xn : Int} {xt : ByteArray} {xo : Option Addr} {xl xq : Nat} {yo : Option Addr} {yl yq : Nat} {er : Value}
    (h : ValP g s x V w2 (c6 xk xb xn xt xo xl xq yo yl yq) er) : ValQ g s x w (.returned (.tuple #[.agg #[.int .i64 xk, .bool xb, .int .i64 xn, .string xt, .slice xo xl xq, .slice yo yl yq], er])) w' := by
  have y1 := ((Grw.of_below (X := fun j => j = g ∨ w.heap.size ≤ j) hb (fun k h1 _ => .inr h1)).trans (Grw.of_gb (X := fun j => j = g) h2 (fun j e => by injection e with e; exact e.symm)) (fun j _ e => .inl e))
  have y2 := gb_of_grw (g := g) (y1.trans h3 (fun j _ (e : j = w.heap.size + 1) => Or.inr (show w.heap.size ≤ j by omega))) (fun j hj e => by omega)
  cases x with
  | error r =>
    obtain ⟨h4, rfl, a, ha, hr⟩ := h
    simp only [List.cons.injEq, Value.int.injEq, Value.bool.injEq, Value.string.injEq, Value.slice.injEq, and_true, true_and] at h4
    obtain ⟨rfl, rfl, rfl, rfl, ⟨rfl, rfl, rfl⟩, rfl, rfl, rfl⟩ := h4
    exact ⟨y2, rfl, a, ha, (h3.block hr.lt (by omega)).trans hr⟩
  | ok r =>
    obtain ⟨rfl, h5, h6⟩ := h
    refine ⟨y2, xk, xb, xn, xt, xo, xl, xq, yo, yl, yq, rfl, ?_, (h3.block h6.lt (by omega)).trans h6⟩
    exact Rep.mono (fun k hk _ => by omega) _ (Rep.keep ⟨h3.size, fun k hk hl => h3.block hl (by omega)⟩ _ h5)
theorem va_parts (g F : Nat) (s : ByteArray) (room : Int) (t : Tok) (w : World) (hk : t.k = 1 ∨ t.k = 3) (hR : Rd g s t.b w) (hE : Env w) (hgN : 4 ≤ g) (hs : s.size ≤ 1000) (htb : t.b ≤ s.size) (hr2 : room ≤ 1000) (hF : 2 * (s.size - t.b) ≤ F) (HV : ValH g F s) :
    Calls Tryz.prog 17 #[.pointer (some ⟨g, 0, none⟩), tkA t, .int .i64 room] w (ValQ g s (paP s.data.toList F room t) w) := by
  have hgl := hR.lt
  have HP : ∀ V, Below w.heap.size w V → V.heap.size = w.heap.size + 2 → Calls Tryz.prog 38 #[.pointer (some ⟨g, 0, none⟩), tkA t, .int .i64 room] V fun e w' => ∃ xk xb xn xt xo xl xq yo yl yq er, e = .returned (.tuple #[.agg #[.int .i64 xk, .bool xb, .int .i64 xn, .string xt, .slice xo xl xq, .slice yo yl yq], er]) ∧ V.grownBy w' (some g) ∧ ValP g s (paP s.data.toList F room t) V w' (c6 xk xb xn xt xo xl xq yo yl yq) er := fun V hb hz =>
    (parts_q g F s room t V (hR.go hb) (hE.go hb) hgN hs htb hr2 hF HV).mono fun e w' h => valq_p h
  unfold tkA at HP ⊢
  rcases hk with hk | hk
  · rw [hk] at HP ⊢
    refine (va_open g room (t.a : Int) (t.b : Int) t.n (mkS t.t) w hgl _ (Lib.hid HP)).mono ?_
    rintro e w' ⟨V, h1, hz, w2, h2, h3, xk, xb, xn, xt, xo, xl, xq, yo, yl, yq, er, rfl, h4⟩
    exact valp_q hgl h1 hz h2 h3 h4
  · rw [hk] at HP ⊢
    refine (va_list g room (t.a : Int) (t.b : Int) t.n (mkS t.t) w hgl _ (Lib.hid HP)).mono ?_
    rintro e w' ⟨V, h1, hz, w2, h2, h3, xk, xb, xn, xt, xo, xl, xq, yo, yl, yq, er, rfl, h4⟩
    exact valp_q hgl h1 hz h2 h3 h4
theorem value_step (g F : Nat) (s : ByteArray) (room : Int) (t : Tok) (w : World) (hgN : 4 ≤ g) (hs : s.size ≤ 1000) (hr2 : room ≤ 1000) (ht : TkOk s.size t (F + 1)) (hR : Rd g s t.b w) (hE : Env w) (HV : ValH g F s) :
    Calls Tryz.prog 17 #[.pointer (some ⟨g, 0, none⟩), tkA t, .int .i64 room] w (ValQ g s (pv s.data.toList (F + 1) room t) w) := by
  obtain ⟨t1, t2, t3, t4⟩ := ht
  by_cases h5 : t.k = 1 ∨ t.k = 3
  · rw [pv_parts h5]
    exact va_parts g F s room t w h5 hR hE hgN hs t1 hr2 (by omega) HV
  rw [pv]
  unfold tkA
  by_cases h1 : t.k = 11
  · rw [if_pos h1, h1]
    refine (va_null g room (t.a : Int) (t.b : Int) t.n (mkS t.t) w).mono fun e w' ⟨he, hb⟩ => ?_
    subst he
    exact fin_leaf hR hb 0 false 0 [] rfl
  rw [if_neg h1]
  by_cases h2 : t.k = 9 ∨ t.k = 10
  · rw [if_pos h2]
    rcases h2 with h2 | h2
    · rw [h2]
      refine (va_true g room (t.a : Int) (t.b : Int) t.n (mkS t.t) w).mono fun e w' ⟨he, hb⟩ => ?_
      subst he
      exact fin_leaf hR hb 1 true 0 [] rfl
    · rw [h2]
      refine (va_false g room (t.a : Int) (t.b : Int) t.n (mkS t.t) w).mono fun e w' ⟨he, hb⟩ => ?_
      subst he
      exact fin_leaf hR hb 1 false 0 [] rfl
  rw [if_neg h2]
  by_cases h3 : t.k = 8
  · rw [if_pos h3, h3]
    refine (va_num g room (t.a : Int) (t.b : Int) t.n (mkS t.t) w).mono fun e w' ⟨he, hb⟩ => ?_
    subst he
    exact fin_leaf hR hb 2 false t.n [] rfl
  rw [if_neg h3]
  by_cases h4 : t.k = 7
  · rw [if_pos h4, h4]
    refine (va_text g room (t.a : Int) (t.b : Int) t.n (mkS t.t) w).mono fun e w' ⟨he, hb⟩ => ?_
    subst he
    exact fin_leaf hR hb 3 false 0 t.t rfl
  rw [if_neg h4, if_neg h5]
  refine (va_bad g room (t.a : Int) (t.b : Int) t.n (mkS t.t) w (t.k : Int) (by omega)).mono fun e w' ⟨he, hb⟩ => ?_
  subst he
  exact ⟨gb_below hb, rfl, t.b, t1, hR.go hb⟩
theorem value_all (g : Nat) (s : ByteArray) (hgN : 4 ≤ g) (hs : s.size ≤ 1000) : ∀ F, ValH g F s
  | 0 => fun f hf => absurd hf (Nat.not_lt_zero _)
  | F + 1 => fun f hf rm x V hr ht hR hE => by
    by_cases h : f < F
    · exact value_all g s hgN hs F f h rm x V hr ht hR hE
    · obtain rfl : f = F := by omega
      cases f with
      | zero => obtain ⟨_, _, _, h4⟩ := ht; omega
      | succ f => exact value_step g f s rm x V hgN hs hr ht hR hE (fun f' hf' => value_all g s hgN hs (f + 1) f' (by omega))
/-- value's contract -/
theorem value_q (g : Nat) (s : ByteArray) (room : Int) (t : Tok) (w : World) (hgN : 4 ≤ g) (hs : s.size ≤ 1000) (hr2 : room ≤ 1000) (ht : t.b ≤ s.size ∧ t.a ≤ s.size ∧ t.t.length ≤ 4 * (s.size + 1)) (hR : Rd g s t.b w) (hE : Env w) :
    Calls Tryz.prog 17 #[.pointer (some ⟨g, 0, none⟩), tkA t, .int .i64 room] w (ValQ g s (pv s.data.toList (2 * s.size + 1) room t) w) :=
  value_all g s hgN hs (2 * s.size + 2) (2 * s.size + 1) (by omega) room t w hr2 ⟨ht.1, ht.2.1, ht.2.2, by omega⟩ hR hE
end Go.Proofs.YtpgllcdcpdeicaaGreatDoor.Jv

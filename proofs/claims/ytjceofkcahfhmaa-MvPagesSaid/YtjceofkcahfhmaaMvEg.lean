/- Both stores: a commit of both, a compaction of both; no other condition. -/
import Derived.Test.YtjceofkcahfhmaaMvEf
import Derived.Test.YtjceofkcahfhmaaMvDk
namespace Go.Proofs.Ytjceofkcahfhmaa.Mv
open Go.RowKit Go.Lib Go.Maps Go.Shelf Go.Sort
open Go.Proofs.Ytjceofkcahfhmaa.Cn
set_option linter.unusedSimpArgs false
set_option linter.unusedVariables false

set_option maxRecDepth 100000 in
set_option maxHeartbeats 2000000 in
theorem CommitD_no {F G : Nat → Prop} {r : Nat} {A : List (List ItT)} {kl vl fl : Int} {Ns : List Key} {Cs : List (List Ver)} {w : World} (h : IsR F G r A kl vl fl Ns Cs w) (hA : A.length ≤ 10000) (hAl : (lastA A).length ≤ 50000) (ac : Option Addr) (cc : Nat) (l : List ChT) (hl : RdC (.slice ac l.length cc) l w) (hcc : l.length ≤ cc) (hC : Cs.length ≤ 1000) (hL : ∀ c ∈ Cs, c.length ≤ 1000) (hm1 : l.length ≤ 1000) (hm : mayD A kl vl Cs l ≠ 0) :
    Calls Try.prog 22 #[.pointer (some ⟨r, 0, none⟩), .slice ac l.length cc] w fun e w' => e = .returned (.tuple #[.int .i64 0, .int .i64 (mayD A kl vl Cs l)]) ∧ Below w.heap.size w w' := by
  have HMY := Lib.hid (MayR_c h (by omega) hAl hC hL ac cc l hl hcc hm1)
  have e1 : (mayD A kl vl Cs l != 0) = true := by simpa using hm
  generalize mayD A kl vl Cs l = m at HMY e1 ⊢
  generalize l.length = t at HMY ⊢
  clear h hA hAl hl hcc hC hL hm1 hm
  go_enter Try.func22, Try.ntmps22
  go_wp2_with (go_at_call 19; (with_reducible refine HMY.out.mono ?_); rintro e w1 ⟨rfl, hb1⟩; have HB1 := Lib.hid hb1; clear hb1)
  refine bodyPost_ret (v := .tuple #[.int .i64 0, .int .i64 m]) (by simp [results, Try.results22, go_sem]) rfl ⟨rfl, HB1.out⟩
theorem mv_asc {c N : Nat} {mb : Option Nat} {f : Key → Option Chn} {l0 l9 rev fl ks vs : Int} {od : Value} {w : World} (h : IsMv 0 c N mb f l0 l9 rev fl ks vs od w) (k : Key) : Asc (vrs f k) := by
  cases hf : f k with
  | none => rw [vrs_none hf]; exact List.Pairwise.nil
  | some x => rw [vrs_some hf]; exact (h.fm.ch k x hf).2.1
theorem od_turn {c : Nat} {mb mb' : Option Nat} {f f' : Key → Option Chn} {K : List Key} {od : Value} {w w1 : World} (h : OdOk c mb f K od w) (fr : Fr (Ow c mb f) w w1) (ow : ∀ k, Ow c mb' f' k → Ow c mb f k ∨ w.heap.size ≤ k) : OdOk c mb' f' K od w1 := by
  rcases h with e | ⟨g, cap, e, hc, hg, hno, hat⟩
  · exact .inl e
  · exact .inr ⟨g, cap, e, hc, Nat.lt_of_lt_of_le hg fr.size, fun ho => (ow g ho).elim hno (fun h => by omega), fun i hi => (World.cell?_of_block (fr.block g hg hno)).trans (hat i hi)⟩
theorem Compact_c {c N : Nat} {mb : Option Nat} {f : Key → Option Chn} {l0 l9 rev fl ks vs : Int} {od : Value} {w : World} (h : IsMv 0 c N mb f l0 l9 rev fl ks vs od w) {K : List Key} (hK : Dm f K) (hN : N ≤ 1000) (hvs : vs = (sumV f K : Nat)) (hvl : vs ≤ 100000) (q : Int) (h1 : fl ≤ q) (h2 : q ≤ rev) :
    Calls Try.prog 23 #[.pointer (some ⟨c, 0, none⟩), .int .i64 q] w fun e w' => e = .returned (.int .i64 0) ∧ CpS c N mb f l0 l9 rev q ks od K w w' := by
  cases mb with
  | none => exact Compact_0 h hvs q h1 h2
  | some b => exact Compact_b h hK hN hvs hvl q h1 h2
/-- what a step leaves -/
def Aft (Z : Nat → Prop) (c r : Nat) (l0 l9 : Int) (n : Nat) (X : Sx) (w w' : World) : Prop := ∃ X', Jn Z c r l0 l9 (n + 1) X' w' ∧ Grw X X' ∧ Fr (fun k => ¬ Z k) w w'
theorem cp_both {Z : Nat → Prop} {c r n N : Nat} {l0 l9 : Int} {X : Sx} {mb : Option Nat} {od : Value} {F G : Nat → Prop} {w : World} (hp : Pln n X) (hn : n ≤ 39) (hN : N ≤ 6 * n) (h : Jw Z c r l0 l9 X N mb od F G w) (hZ : ∀ k, Z k → k < w.heap.size) (q : Int) :
    Calls Try.prog 23 #[.pointer (some ⟨c, 0, none⟩), .int .i64 q] w fun e w1 => e = .returned (.int .i64 (cpE X.fl X.rev q)) ∧ Fr (Owd c mb X.f od) w w1 ∧ Calls Try.prog 24 #[.pointer (some ⟨r, 0, none⟩), .int .i64 q] w1 fun e w2 => e = .returned (.int .i64 (cpE X.fl X.rev q)) ∧ Aft Z c r l0 l9 n X w w2 := by
  have hA := hp.refA (by omega)
  by_cases hq : q < X.fl ∨ X.rev < q
  · have e1 : cpE X.fl X.rev q = 1 := if_pos hq
    rw [e1]
    refine (Compact_no h.is q hq).mono ?_
    rintro e w1 ⟨rfl, rfl⟩
    refine ⟨rfl, Fr.refl _ _, (CompactD_no h.rf (by omega) q (by rw [hp.hA]; exact hq)).mono ?_⟩
    rintro e w2 ⟨rfl, rfl⟩
    exact ⟨rfl, X, Jn.up ⟨hp, N, mb, od, F, G, hN, h⟩, Grw.refl X, Fr.refl _ _⟩
  · have e1 : cpE X.fl X.rev q = 0 := if_neg hq
    have hq0 : X.fl ≤ q := by omega
    have hq1 : q ≤ X.rev := by omega
    rw [e1]
    have hvb := hp.vsb (by omega)
    refine (Compact_c h.is hp.dm (by omega) hp.hv (by omega) q hq0 hq1).mono ?_
    rintro e w1 ⟨rfl, f', od', i1, fr, ow, hv, hs, ho⟩
    have rf1 := h.rf.kept fr (fun k hk hw => (h.gs k hk).2 (.inl hw))
    have hasc := Cs_asc hp
    refine ⟨rfl, fr.mono (fun k hk => .inl hk), (CompactD_ok rf1 (by omega) (by have := hp.b3; omega) (fun d hd => ⟨by have := hp.b4 d hd; omega, hasc d hd⟩) q hq0 (by rw [hp.hA]; exact hq1)).mono ?_⟩
    rintro e w2 ⟨rfl, r2, f2⟩
    have hP' := hp.compact hq0 hq1 hv hs (mv_asc i1)
    have ho1 : OdOk c mb f' (cmK X.f q X.K) od' w1 := by
      rcases ho with ⟨rfl, hsm⟩ | e
      · have hKK : cmK X.f q X.K = X.K := List.filter_eq_self.2 (fun k hk => by
          have a1 := hs k
          rw [hsm k, hp.dm.2 k, decide_eq_true hk, Bool.true_and] at a1
          exact a1.symm)
        rw [hKK]
        exact od_turn h.ok fr ow
      · exact .inl e
    obtain ⟨j1, j2⟩ := h.join ⟨f', X.rev, q, X.ks, (sumV f' X.K : Nat), cmK X.f q X.K, X.A, X.Ns, X.Cs.map fun c => cmp c q⟩ i1 ho1 (fr.mono (fun k hk => .inl hk)) ow (fun k n cap e => by
      rcases ho with ⟨e2, _⟩ | e2
      · exact .inl e2.symm
      · rw [e2] at e; injection e with e; cases e) r2 f2 hZ
    exact ⟨rfl, _, ⟨hP', N, mb, od', _, _, by omega, j1⟩, ⟨hq0, [], by simp⟩, j2⟩
theorem cm_both {Z : Nat → Prop} {c r n N : Nat} {l0 l9 : Int} {X : Sx} {mb : Option Nat} {od : Value} {F G : Nat → Prop} {w : World} (hp : Pln n X) (hn : n ≤ 39) (hN : N ≤ 6 * n) (h : Jw Z c r l0 l9 X N mb od F G w) (hZ : ∀ k, Z k → k < w.heap.size) (l : List ChT) (h6 : l.length ≤ 6) (hkk : ∀ x ∈ l, x.1.size ≤ maxLen) (a1 a2 : Option Addr) (c1 c2 : Nat) (r1 : RdC (.slice a1 l.length c1) l w) (r2 : RdC (.slice a2 l.length c2) l w) (hc2 : l.length ≤ c2) (n1 : ∀ g, a1 = some ⟨g, 0, none⟩ → ¬ Owd c mb X.f od g) (n2 : ∀ g, a2 = some ⟨g, 0, none⟩ → ¬ Owd c mb X.f od g ∧ ¬ G g) :
    ∃ x y : Int, Calls Try.prog 21 #[.pointer (some ⟨c, 0, none⟩), .slice a1 l.length c1] w fun e w1 => e = .returned (.tuple #[.int .i64 x, .int .i64 y]) ∧ Calls Try.prog 22 #[.pointer (some ⟨r, 0, none⟩), .slice a2 l.length c2] w1 fun e w2 => e = .returned (.tuple #[.int .i64 x, .int .i64 y]) ∧ Aft Z c r l0 l9 n X w w2 := by
  have hA := hp.refA (by omega)
  have hvb := hp.vsb (by omega)
  have hME := may_eq (l0 := l0) (l9 := l9) (Cs := X.Cs) hp.hA hp.last hp.hk l
  have hvs : X.vs = (sumC X.Cs : Nat) := by rw [hp.hv, hp.both]
  rw [← hvs] at hME
  have hll := hp.lastLen
  have hrv := hp.h0
  have hrv1 := hp.h1
  have hrv2 := hp.b1
  have hK2 := hp.b2
  have hC2 := hp.b3
  have hC := Commit_c h.is hp.dm a1 c1 l r1 (fun g e hw => n1 g e (.inl hw)) (by omega) (by omega) (by omega) hkk (by rw [hp.hk]; omega) (by omega) (by omega) hp.le
  by_cases hm : mayE X.f l0 l9 X.rev X.ks X.vs l = 0
  · refine ⟨X.rev + 1, 0, hC.mono ?_⟩
    rintro e w1 (⟨hm', _⟩ | ⟨_, rfl, mb', f', od', i1, fr, ow, hv, hKx, hs, ho⟩)
    · exact absurd hm hm'
    rw [List.take_length] at hv hs
    have rf1 := h.rf.kept fr (fun k hk hw => (h.gs k hk).2 (.inl hw))
    have key : ∀ K', Dm f' K' → K'.length ≤ X.K.length + l.length → OdOk c mb' f' K' od' w1 → Calls Try.prog 22 #[.pointer (some ⟨r, 0, none⟩), .slice a2 l.length c2] w1 fun e w2 => e = .returned (.tuple #[.int .i64 (X.rev + 1), .int .i64 0]) ∧ Aft Z c r l0 l9 n X w w2 := by
      intro K' hd hKl ho1
      refine (CommitD_ok rf1 (by omega) (by omega) hp.nc a2 c2 l (r2.fr fr (fun g e hw => (n2 g e).1 (.inl hw))) (fun g e => (n2 g e).2) hc2 (by omega) (fun d hd => by have := hp.b4 d hd; omega) (by rw [← hME]; exact hm) (fun k hk => Nat.lt_of_lt_of_le (h.fb k hk) fr.size)).mono ?_
      rintro e w2 ⟨rfl, F', rr, _, f2⟩
      rw [List.take_length, hp.hA] at rr
      rw [hp.hA]
      have hP' := hp.commit (may_right hm) h6 hkk hv hd hKl hs (mv_asc i1)
      obtain ⟨j1, j2⟩ := h.join ⟨f', X.rev + 1, X.fl, kwL X.f X.rev X.ks l, X.vs + l.length, K', X.A ++ [nextL X.A l], (putsP (X.rev + 1) l (X.Ns, X.Cs)).1, (putsP (X.rev + 1) l (X.Ns, X.Cs)).2⟩ i1 ho1 (fr.mono (fun k hk => .inl hk)) ow (fun k n cap e => by
        rcases ho with ⟨e2, _⟩ | e2
        · exact .inl e2.symm
        · rw [e2] at e; injection e with e; cases e) rr f2 hZ
      exact ⟨rfl, _, ⟨hP', _, mb', od', _, _, by omega, j1⟩, ⟨Int.le_refl _, _, rfl⟩, j2⟩
    refine ⟨rfl, ?_⟩
    rcases ho with ⟨e, hsm⟩ | e
    · subst e
      exact key X.K ⟨hp.dm.1, fun k => (hsm k).trans (hp.dm.2 k)⟩ (by omega) (od_turn h.ok fr ow)
    · obtain ⟨K', hd, hKl⟩ := hKx
      exact key K' hd hKl (.inl e)
  · refine ⟨0, mayE X.f l0 l9 X.rev X.ks X.vs l, hC.mono ?_⟩
    rintro e w1 (⟨_, rfl, hb⟩ | ⟨hm', _⟩)
    · refine ⟨rfl, (CommitD_no (h.rf.go hb) (by omega) (by omega) a2 c2 l (r2.go hb) hc2 (by omega) (fun d hd => by have := hp.b4 d hd; omega) (by omega) (by rw [← hME]; exact hm)).mono ?_⟩
      rintro e w2 ⟨rfl, hb2⟩
      have hbb := hb.trans (hb2.mono hb.size)
      refine ⟨by rw [hME], X, Jn.up ⟨hp, N, mb, od, F, G, hN, h.go hbb⟩, Grw.refl X, Fr.below hbb⟩
    · exact absurd hm' hm
end Go.Proofs.Ytjceofkcahfhmaa.Mv

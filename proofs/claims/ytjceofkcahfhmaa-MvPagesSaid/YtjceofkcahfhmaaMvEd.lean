/- Both stores: what they tell together; no walk. -/
import Derived.Test.YtjceofkcahfhmaaMvPd
namespace Go.Proofs.Ytjceofkcahfhmaa.Mv
open Go.RowKit Go.Lib Go.Maps Go.Shelf Go.Sort
open Go.Proofs.Ytjceofkcahfhmaa.Cn
set_option linter.unusedSimpArgs false
set_option linter.unusedVariables false

/-- what both stores stand for -/
structure Sx where
  f : Key → Option Chn
  rev : Int
  fl : Int
  ks : Int
  vs : Int
  K : List Key
  A : List (List ItT)
  Ns : List Key
  Cs : List (List Ver)
structure Pln (n : Nat) (X : Sx) : Prop where
  hA : revA X.A = X.rev
  h0 : 0 ≤ X.fl
  h1 : X.fl ≤ X.rev
  tl : ∀ r : Nat, X.fl ≤ r → (r : Int) ≤ X.rev → Tells (X.A.getD r []) (gAt X.f r)
  dm : Dm X.f X.K
  kn : ∀ k ∈ X.K, k ≠ [] ∧ k.length ≤ maxLen
  asc : ∀ k, Asc (vrs X.f k)
  le : ∀ k, ∀ x ∈ vrs X.f k, x.1 ≤ X.rev
  hk : X.ks = ((lastA X.A).length : Nat)
  hv : X.vs = (sumV X.f X.K : Nat)
  nc : X.Ns.length = X.Cs.length
  nd : X.Ns.Nodup
  ch : ∀ k, chD X.Ns X.Cs k = vrs X.f k
  b1 : X.rev ≤ n
  b2 : X.K.length ≤ 6 * n
  b3 : X.Cs.length ≤ 6 * n
  b4 : ∀ c ∈ X.Cs, c.length ≤ 6 * n
  b5 : ∀ L ∈ X.A, L.length ≤ 6 * n ∧ ∀ x ∈ L, x.1.size ≤ maxLen
theorem Pln.len {n : Nat} {X : Sx} (h : Pln n X) : (X.A.length : Int) = X.rev + 1 := by have := h.hA; unfold revA at this; omega
theorem lastA_get {A : List (List ItT)} {r : Nat} (h : (A.length : Int) = r + 1) : A.getD r [] = lastA A := by
  unfold lastA; rw [show A.length - 1 = r by omega]
theorem lastA_snoc (A : List (List ItT)) (x : List ItT) : lastA (A ++ [x]) = x := by
  unfold lastA; rw [List.length_append, List.getD_eq_getElem?_getD]; simp
theorem lastA_mem {A : List (List ItT)} (h : 0 < A.length) : lastA A ∈ A := by
  unfold lastA
  rw [List.getD_eq_getElem?_getD, List.getElem?_eq_getElem (by omega)]
  exact List.getElem_mem _
theorem revA_snoc (A : List (List ItT)) (x : List ItT) : revA (A ++ [x]) = revA A + 1 := by unfold revA; simp
theorem Pln.last {n : Nat} {X : Sx} (h : Pln n X) : Tells (lastA X.A) (gAt X.f X.rev) := by
  obtain ⟨r, hr⟩ : ∃ r : Nat, (r : Int) = X.rev := ⟨X.rev.toNat, by have := h.h0; have := h.h1; omega⟩
  have := h.tl r (by have := h.h1; omega) (by omega)
  rw [lastA_get (by have := h.len; omega), hr] at this
  exact this
theorem Pln.lastLen {n : Nat} {X : Sx} (h : Pln n X) : (lastA X.A).length ≤ 6 * n :=
  (h.b5 _ (lastA_mem (by have := h.len; have := h.h0; have := h.h1; omega))).1
theorem sumC_le {M : Nat} : ∀ {Cs : List (List Ver)}, (∀ c ∈ Cs, c.length ≤ M) → sumC Cs ≤ Cs.length * M
  | [], _ => Nat.zero_le _
  | c :: Cs, h => by
    have h1 := sumC_le (Cs := Cs) (fun x hx => h x (List.mem_cons_of_mem _ hx))
    have h2 := h c (List.mem_cons_self ..)
    have e : sumC (c :: Cs) = c.length + sumC Cs := by unfold sumC; simp
    rw [e, List.length_cons, Nat.add_mul]; omega
theorem Pln.both {n : Nat} {X : Sx} (h : Pln n X) : sumV X.f X.K = sumC X.Cs := sum_both h.dm h.nc h.nd h.ch
theorem Pln.vsb {n : Nat} {X : Sx} (h : Pln n X) (hn : n ≤ 40) : 0 ≤ X.vs ∧ X.vs ≤ 57600 := by
  have e := h.hv
  rw [h.both] at e
  have h1 := sumC_le h.b4
  have h2 : X.Cs.length * (6 * n) ≤ 240 * 240 := Nat.mul_le_mul (by have := h.b3; omega) (by omega)
  omega
theorem atB_ne {l : List Ver} {q : Int} (h : atB l q = true) : l ≠ [] := fun e => by rw [e, atB_nil] at h; cases h
theorem dm_vrs {f : Key → Option Chn} {K : List Key} (h : Dm f K) {k : Key} (hk : vrs f k ≠ []) : k ∈ K := by
  have h1 := h.2 k
  have : (f k).isSome = true := by
    unfold vrs at hk
    split at hk
    · rename_i e; rw [e]; rfl
    · exact absurd rfl hk
  rw [this] at h1
  exact of_decide_eq_true h1.symm
theorem tells_key {L : List ItT} {f : Key → Option Chn} {q : Int} {K : List Key} (h : Tells L (gAt f q)) (hK : Dm f K) {x : ItT} (hx : x ∈ L) : kyI x ∈ K := by
  have h1 := (h.el x).1 hx
  unfold gAt at h1
  by_cases hb : atB (vrs f (kyI x)) q = true
  · exact dm_vrs hK (atB_ne hb)
  · rw [if_neg hb] at h1; cases h1
theorem okC_facts {f : Key → Option Chn} {rev : Int} {l : List ChT} (h : rightB f rev l = true) : ∀ c ∈ l, c.1.data.toList ≠ [] ∧ (c.2.2 = true → atB (vrs f c.1.data.toList) rev = true) := by
  intro c hc
  unfold rightB at h
  rw [Bool.and_eq_true, List.all_eq_true] at h
  have h1 := h.1 c hc
  unfold okC at h1
  simp only [Bool.and_eq_true, Bool.not_eq_true', Bool.or_eq_true] at h1
  refine ⟨fun e => ?_, fun e => ?_⟩
  · have := h1.1; rw [e] at this; cases this
  · rcases h1.2 with h2 | h2
    · rw [e] at h2; cases h2
    · exact h2
theorem Pln.commit {n : Nat} {X : Sx} (h : Pln n X) {l : List ChT} (hm : rightB X.f X.rev l = true) (hl : l.length ≤ 6) (hkk : ∀ x ∈ l, x.1.size ≤ maxLen) {f' : Key → Option Chn} {K' : List Key} (hv : ∀ k, vrs f' k = vrs X.f k ++ cmV (X.rev + 1) l k) (hd : Dm f' K') (hKl : K'.length ≤ X.K.length + l.length) (hs : ∀ k, (f' k).isSome = (decide (k ∈ keysL l) || (X.f k).isSome)) (ha : ∀ k, Asc (vrs f' k)) :
    Pln (n + 1) ⟨f', X.rev + 1, X.fl, kwL X.f X.rev X.ks l, X.vs + l.length, K', X.A ++ [nextL X.A l], (putsP (X.rev + 1) l (X.Ns, X.Cs)).1, (putsP (X.rev + 1) l (X.Ns, X.Cs)).2⟩ := by
  have hnd := right_nodup hm
  have hok := okC_facts hm
  have hlast := h.last
  have hlen := h.len
  have hNX : nextL X.A l = nextR l (X.rev + 1) (lastA X.A) := by unfold nextL; rw [h.hA]
  have hT1 : Tells (nextL X.A l) (gAt f' (X.rev + 1)) := by
    rw [hNX, gAt_new hnd hv h.le]; exact Tells.next (g := gAt X.f X.rev) _ l hlast
  have hkn : ∀ k ∈ K', k ≠ [] ∧ k.length ≤ maxLen := fun k hk => by
    have h1 := hd.2 k
    rw [decide_eq_true hk, hs k, Bool.or_eq_true] at h1
    rcases h1 with h1 | h1
    · obtain ⟨c, hc, rfl⟩ := List.mem_map.1 (of_decide_eq_true h1)
      exact ⟨(hok c hc).1, hkk c hc⟩
    · rw [h.dm.2 k] at h1; exact h.kn k (of_decide_eq_true h1)
  have hP := putsP_facts (r := X.rev + 1) (l := l) h.nc h.nd l.length (Nat.le_refl _)
  rw [List.take_length] at hP
  obtain ⟨p1, p2, p3, p4⟩ := hP
  have hch : ∀ k, chD (putsP (X.rev + 1) l (X.Ns, X.Cs)).1 (putsP (X.rev + 1) l (X.Ns, X.Cs)).2 k = vrs f' k := fun k => by rw [p4 k, h.ch k, hv k]
  have hQ := putsP_len (r := X.rev + 1) (l := l) h.nc h.b4 l.length (Nat.le_refl _)
  rw [List.take_length] at hQ
  obtain ⟨q1, q2, q3⟩ := hQ
  have hnl := nextR_len (X.rev + 1) l (lastA X.A)
  have hll := h.lastLen
  refine ⟨?_, h.h0, ?_, fun r h1 h2 => ?_, hd, hkn, ha, fun k x hx => ?_, ?_, ?_, p1, p2, hch, ?_, ?_, ?_, fun c hc => ?_, fun L hL => ?_⟩
  · show revA (X.A ++ [nextL X.A l]) = X.rev + 1
    rw [revA_snoc, h.hA]
  · show X.fl ≤ X.rev + 1
    have := h.h1; omega
  · show Tells ((X.A ++ [nextL X.A l]).getD r []) (gAt f' r)
    have h1 : X.fl ≤ r := h1
    have h2 : (r : Int) ≤ X.rev + 1 := h2
    by_cases hr : (r : Int) ≤ X.rev
    · rw [gAt_old hv hr, List.getD_eq_getElem?_getD, List.getElem?_append_left (by omega), ← List.getD_eq_getElem?_getD]
      exact h.tl r h1 hr
    · have e : (r : Int) = X.rev + 1 := by omega
      rw [e, lastA_get (by rw [List.length_append, List.length_cons, List.length_nil]; omega), lastA_snoc]
      exact hT1
  · show x.1 ≤ X.rev + 1
    have hx : x ∈ vrs f' k := hx
    rw [hv k] at hx
    rcases List.mem_append.1 hx with e | e
    · have := h.le k x e; omega
    · rw [cmV_rev x e]; exact Int.le_refl _
  · show kwL X.f X.rev X.ks l = ((lastA (X.A ++ [nextL X.A l])).length : Nat)
    rw [lastA_snoc, hNX, h.hk]
    exact kw_next l hlast hnd (fun c _ => gat_some _ _ _) (fun c hc => (hok c hc).2) _
  · show X.vs + l.length = (sumV f' K' : Nat)
    rw [sum_both hd p1 p2 hch, p3, h.hv, h.both]; omega
  · show X.rev + 1 ≤ ((n + 1 : Nat) : Int)
    have := h.b1; omega
  · show K'.length ≤ 6 * (n + 1)
    have := h.b2; omega
  · show (putsP (X.rev + 1) l (X.Ns, X.Cs)).2.length ≤ 6 * (n + 1)
    have := h.b3; omega
  · have := q3 c hc; omega
  · have hL : L ∈ X.A ++ [nextL X.A l] := hL
    rcases List.mem_append.1 hL with e | e
    · have := h.b5 L e; exact ⟨by omega, this.2⟩
    · rw [List.mem_singleton.1 e]
      refine ⟨by rw [hNX]; omega, fun x hx => (hkn _ (tells_key hT1 hd hx)).2⟩
theorem Cs_asc {n : Nat} {X : Sx} (h : Pln n X) : ∀ c ∈ X.Cs, Asc c := by
  intro c hc
  obtain ⟨i, hi, rfl⟩ := List.getElem_of_mem hc
  have hiN : i < X.Ns.length := by rw [h.nc]; exact hi
  have hm : X.Ns[i] ∈ X.Ns := List.getElem_mem hiN
  have h1 := h.ch X.Ns[i]
  unfold chD at h1
  rw [if_pos hm] at h1
  have hix : ixOf X.Ns X.Ns[i] = i := idx_of hiN rfl (fun k hk e => by
    exact List.pairwise_iff_getElem.1 h.nd k i (Nat.lt_trans hk hiN) hiN hk e)
  rw [hix, List.getD_eq_getElem?_getD, List.getElem?_eq_getElem hi] at h1
  have : X.Cs[i] = vrs X.f X.Ns[i] := h1
  rw [this]; exact h.asc _
theorem cmp_le (c : List Ver) (q : Int) : (cmp c q).length ≤ c.length := by unfold cmp; rw [List.length_drop]; omega
theorem cmp_mem {c : List Ver} {q : Int} {x : Ver} (h : x ∈ cmp c q) : x ∈ c := List.mem_of_mem_drop (by unfold cmp at h; exact h)
/-- the keys that are left -/
def cmK (f : Key → Option Chn) (q : Int) (K : List Key) : List Key := K.filter fun k => decide (cmp (vrs f k) q ≠ [])
theorem dm_cmK {f f' : Key → Option Chn} {q : Int} {K : List Key} (h : Dm f K) (hs : ∀ k, (f' k).isSome = ((f k).isSome && decide (cmp (vrs f k) q ≠ []))) : Dm f' (cmK f q K) := by
  refine ⟨h.1.sublist List.filter_sublist, fun k => ?_⟩
  rw [hs k, h.2 k]
  unfold cmK
  rw [Bool.eq_iff_iff]
  simp [List.mem_filter]
theorem sum_cmK {f f' : Key → Option Chn} {q : Int} (hv : ∀ k, vrs f' k = cmp (vrs f k) q) : ∀ K : List Key, sumV f' K = sumV f' (cmK f q K)
  | [] => rfl
  | k :: K => by
    have ih := sum_cmK hv K
    unfold sumV cmK at *
    by_cases hk : cmp (vrs f k) q ≠ []
    · rw [List.filter_cons_of_pos (by simpa using hk), List.map_cons, List.sum_cons, List.map_cons, List.sum_cons, ih]
    · rw [List.filter_cons_of_neg (by simpa using hk), List.map_cons, List.sum_cons, ih, hv k, Classical.not_not.1 hk]; simp
theorem Pln.compact {n : Nat} {X : Sx} (h : Pln n X) {q : Int} (h1 : X.fl ≤ q) (h2 : q ≤ X.rev) {f' : Key → Option Chn} (hv : ∀ k, vrs f' k = cmp (vrs X.f k) q) (hs : ∀ k, (f' k).isSome = ((X.f k).isSome && decide (cmp (vrs X.f k) q ≠ []))) (ha : ∀ k, Asc (vrs f' k)) :
    Pln (n + 1) ⟨f', X.rev, q, X.ks, (sumV f' X.K : Nat), cmK X.f q X.K, X.A, X.Ns, X.Cs.map fun c => cmp c q⟩ := by
  refine ⟨h.hA, by show 0 ≤ q; have := h.h0; omega, h2, fun r g1 g2 => ?_, dm_cmK h.dm hs, fun k hk => h.kn k (List.mem_filter.1 hk).1, ha, fun k x hx => ?_, h.hk, ?_, ?_, h.nd, fun k => ?_, ?_, ?_, ?_, fun c hc => ?_, fun L hL => ?_⟩
  · show Tells (X.A.getD r []) (gAt f' r)
    have g1 : q ≤ r := g1
    have g2 : (r : Int) ≤ X.rev := g2
    rw [gAt_cmp hv h.asc g1]
    exact h.tl r (by omega) g2
  · have hx : x ∈ vrs f' k := hx
    rw [hv k] at hx
    exact h.le k x (cmp_mem hx)
  · show ((sumV f' X.K : Nat) : Int) = (sumV f' (cmK X.f q X.K) : Nat)
    rw [sum_cmK hv]
  · show X.Ns.length = (X.Cs.map fun c => cmp c q).length
    rw [List.length_map]; exact h.nc
  · show chD X.Ns (X.Cs.map fun c => cmp c q) k = vrs f' k
    rw [chD_cmp, h.ch k, hv k]
  · show X.rev ≤ ((n + 1 : Nat) : Int)
    have := h.b1; omega
  · show (cmK X.f q X.K).length ≤ 6 * (n + 1)
    have := h.b2
    have : (cmK X.f q X.K).length ≤ X.K.length := List.length_filter_le _ _
    omega
  · show (X.Cs.map fun c => cmp c q).length ≤ 6 * (n + 1)
    rw [List.length_map]; have := h.b3; omega
  · have hc : c ∈ X.Cs.map fun c => cmp c q := hc
    obtain ⟨d, hd, rfl⟩ := List.mem_map.1 hc
    have := h.b4 d hd
    have := cmp_le d q
    omega
  · have := h.b5 L hL; exact ⟨by omega, this.2⟩
theorem Pln.up {n : Nat} {X : Sx} (h : Pln n X) : Pln (n + 1) X :=
  ⟨h.hA, h.h0, h.h1, h.tl, h.dm, h.kn, h.asc, h.le, h.hk, h.hv, h.nc, h.nd, h.ch, by have := h.b1; omega, by have := h.b2; omega, by have := h.b3; omega, fun c hc => by have := h.b4 c hc; omega, fun L hL => by have := h.b5 L hL; exact ⟨by omega, this.2⟩⟩
/-- the store at its start -/
def X0 : Sx := ⟨fun _ => none, 0, 0, 0, 0, [], [[]], [], []⟩
theorem Pln.new : Pln 0 X0 := by
  refine ⟨rfl, Int.le_refl _, Int.le_refl _, fun r h1 h2 => ?_, ⟨List.nodup_nil, fun k => (by simp [X0])⟩, fun k hk => (by cases hk), fun k => ?_, fun k x hx => ?_, rfl, rfl, rfl, List.nodup_nil, fun k => ?_, Int.le_refl _, Nat.le_refl _, Nat.le_refl _, fun c hc => (by cases hc), fun L hL => ?_⟩
  · have h2 : (r : Int) ≤ 0 := h2
    have : r = 0 := by omega
    subst this
    refine ⟨List.Pairwise.nil, fun x => ⟨fun hx => (by cases hx), fun hx => ?_⟩⟩
    unfold gAt at hx
    rw [show vrs X0.f (kyI x) = [] from rfl, atB_nil] at hx
    cases hx
  · show Asc []
    exact List.Pairwise.nil
  · cases hx
  · show chD [] [] k = []
    unfold chD; simp
  · rw [List.mem_singleton.1 hL]; exact ⟨Nat.zero_le _, fun x hx => by cases hx⟩
end Go.Proofs.Ytjceofkcahfhmaa.Mv

/- Pages of segments, plainly. -/
import Derived.Test.YtojiomkinhnodaaYPlace
namespace Go.Proofs.Ytojiomkinhnodaa
open Go.ChangeShapes Go.WideShapes Go.ChangeAt Go.RowKit Go.Maps
set_option linter.unusedVariables false
set_option linter.unusedSimpArgs false

theorem grpO_le (o : Ou) : grpO o ≤ 8 := grp_le _ _
theorem LI.sorted {U : List So} {st : St} (h : LI U (ord U) st) : st.outs.Pairwise (fun x y => grpO x ≤ grpO y) := by
  have h1 : (st.outs.map grpO).Pairwise (· ≤ ·) := by rw [h.grs, List.pairwise_map]; exact ord_grp U
  exact List.pairwise_map.1 h1
theorem LI.far {U : List So} {st : St} (h : LI U (ord U) st) {x y : Ou} (hx : x ∈ st.outs) (hy : y ∈ st.outs) (hg : grpO x < grpO y) : ApO x y := by
  obtain ⟨i, hi, rfl⟩ := List.getElem_of_mem hx
  obtain ⟨j, hj, rfl⟩ := List.getElem_of_mem hy
  have h1 := List.pairwise_iff_getElem.1 h.apart
  have h2 := List.pairwise_iff_getElem.1 h.sorted
  by_cases e : i < j
  · exact h1 i j hi hj e
  · by_cases e2 : i = j
    · subst e2; omega
    · have := h2 j i hj hi (by omega)
      omega
theorem hd_mem {α : Type} [Inhabited α] {l : List α} (h : l ≠ []) : l.headD default ∈ l := by
  cases l with
  | nil => exact absurd rfl h
  | cons a r => simp
theorem hd_q {α : Type} [Inhabited α] {l : List α} (h : l ≠ []) : l.head? = some (l.headD default) := by
  cases l with
  | nil => exact absurd rfl h
  | cons a r => rfl
theorem inK_ld : ∀ (g : Fin 9) (k : Fin 3), (decide (fr k.1 ≤ g.1) && decide (g.1 ≤ tt k.1)) = (min g.1 3 == k.1 + 1) := by decide
theorem inK_tl : ∀ g : Fin 9, (decide (fr 3 ≤ g.1) && decide (g.1 ≤ tt 3)) = (g.1 == 3 || g.1 == 4) := by decide
theorem inK_load {k : Nat} (hk : k < 3) (o : Ou) : inK k o = (min (grpO o) 3 == k + 1) := inK_ld ⟨grpO o, by have := grpO_le o; omega⟩ ⟨k, hk⟩
theorem inK_tls (o : Ou) : inK 3 o = (grpO o == 3 || grpO o == 4) := inK_tl ⟨grpO o, by have := grpO_le o; omega⟩
/-- A segment that is loaded. -/
structure LdS (s : Sg) : Prop where
  ty : s.ty = 1
  fl : s.fl = 4 ∨ s.fl = 5 ∨ s.fl = 6
  ad : 4096 ≤ s.ad
  pg : s.ad % 4096 = 0
  sz : 0 ≤ s.sz ∧ s.sz ≤ s.me
/-- The thread-local one. -/
structure TlS (s : Sg) : Prop where
  ty : s.ty = 7
  fl : s.fl = 4
  al : 1 ≤ s.al
  pg : s.ad % s.al = 0
  sz : 0 ≤ s.sz ∧ s.sz ≤ s.me
theorem pow_dvd12 (j : Nat) (hj : j ≤ 12) (a : Int) (h : a % 4096 = 0) : a % 2 ^ j = 0 := by
  have e : (4096 : Int) = 2 ^ j * 2 ^ (12 - j) := by rw [← Int.pow_add, show j + (12 - j) = 12 by omega]; decide
  have h1 : (4096 : Int) ∣ a := Int.dvd_of_emod_eq_zero h
  exact Int.emod_eq_zero_of_dvd (Int.dvd_trans ⟨2 ^ (12 - j), e⟩ h1)
section
variable {U : List So} {st : St} (h : LI U (ord U) st)
include h
theorem LI.load {k : Nat} (hk : k < 3) (hne : st.outs.filter (inK k) ≠ []) : LdS (seg1 k (arL (st.outs.filter (inK k)))) := by
  have hA := h.flt (inK k) hne
  have hm := hd_mem hne
  have h6 := h.each _ (List.mem_filter.1 hm).1
  have hq : (st.outs.filter (fun o => min (grpO o) 3 == k + 1)).head? = some ((st.outs.filter (inK k)).headD default) := by
    rw [← hd_q hne]
    congr 2
    funext o
    exact (inK_load hk o).symm
  have hp := h.head (k + 1) _ hq
  have had := hA.ad
  refine ⟨?_, ?_, ?_, ?_, hA.sz⟩
  · show kd k = 1
    unfold kd
    rw [if_neg (by omega)]
  · show fg k = 4 ∨ fg k = 5 ∨ fg k = 6
    unfold fg
    split
    · omega
    · split <;> omega
  · show 4096 ≤ (arL _).ad
    omega
  · show (arL _).ad % 4096 = 0
    rw [had]; exact hp
theorem LI.tlsS (hne : st.outs.filter (inK 3) ≠ []) : TlS (seg1 3 (arL (st.outs.filter (inK 3)))) := by
  have hA := h.flt (inK 3) hne
  have hm := hd_mem hne
  have hq : (st.outs.filter (fun o => grpO o == 3 || grpO o == 4)).head? = some ((st.outs.filter (inK 3)).headD default) := by
    rw [← hd_q hne]
    congr 2
    funext o
    exact (inK_tls o).symm
  have hp := h.tls _ hq
  obtain ⟨j, hj, hpw⟩ := hA.pow
  have hal : (seg1 3 (arL (st.outs.filter (inK 3)))).al = 2 ^ j := by
    show (if kd 3 == 1 then (4096 : Int) else _) = _
    rw [if_neg (by decide)]; exact hpw
  refine ⟨rfl, rfl, ?_, ?_, hA.sz⟩
  · rw [hal]; exact pow_pos2 j
  · rw [hal]
    refine pow_dvd12 j hj _ ?_
    show (arL _).ad % 4096 = 0
    rw [hA.ad]; exact hp
theorem LI.gap {k1 k2 : Nat} (hk : k1 < k2) (hk2 : k2 < 3) (h1 : st.outs.filter (inK k1) ≠ []) (h2 : st.outs.filter (inK k2) ≠ []) :
    (seg1 k1 (arL (st.outs.filter (inK k1)))).ad + (seg1 k1 (arL (st.outs.filter (inK k1)))).me ≤ (seg1 k2 (arL (st.outs.filter (inK k2)))).ad := by
  have hA := h.flt (inK k1) h1
  have hB := h.flt (inK k2) h2
  obtain ⟨o, ho, he⟩ := hA.eq
  have hm := hd_mem h2
  have m1 := List.mem_filter.1 ho
  have m2 := List.mem_filter.1 hm
  have g1 := m1.2
  have g2 := m2.2
  rw [inK_load (by omega)] at g1 g2
  simp only [beq_iff_eq] at g1 g2
  have := h.far m1.1 m2.1 (by omega)
  unfold ApO at this
  have := hB.ad
  show (arL _).ad + (arL _).me ≤ (arL _).ad
  omega
end
/-- Where one segment ends the next may begin. -/
def pgsL (t : Tn) : Int → List Sg → Bool
  | _, [] => true
  | e, s :: r =>
    if decide (s.sz < 0) || (decide (s.me < s.sz) || bits .and .i64 s.fl 3 == 3) then false
    else if s.ty == 7 then
      (if !(s.ad == t.a) || (!(s.me == t.s) || (decide (t.p < t.a + t.s) || (decide (t.l ≤ t.p - t.a - t.s) || (!(t.a % t.l == 0) || !(t.p % t.l == 0))))) then false else pgsL t e r)
    else if !(s.ty == 1) || (!(s.ad % 4096 == 0) || decide (s.ad < e)) then false
    else pgsL t (s.ad + s.me) r
theorem pgs_load (t : Tn) (e : Int) (s : Sg) (r : List Sg) (h : LdS s) (he : e ≤ s.ad) : pgsL t e (s :: r) = pgsL t (s.ad + s.me) r := by
  have hb : (bits .and .i64 s.fl 3 == 3) = false := by
    rcases h.fl with e | e | e <;> rw [e] <;> decide
  have h1 : ¬ s.sz < 0 := by have := h.sz; omega
  have h2 : ¬ s.me < s.sz := by have := h.sz; omega
  have h3 : ¬ s.ad < e := by omega
  have e7 : (s.ty == 7) = false := by rw [h.ty]; decide
  have e1 : (s.ty == 1) = true := by rw [h.ty]; decide
  have ep : (s.ad % 4096 == 0) = true := by rw [h.pg]; decide
  rw [pgsL, hb, decide_eq_false h1, decide_eq_false h2, e7, e1, ep, decide_eq_false h3]
  rfl
theorem pgs_tls (e : Int) (s : Sg) (r : List Sg) (h : TlS s) : pgsL (tn1 ⟨0, 0, 0, 0⟩ s) e (s :: r) = pgsL (tn1 ⟨0, 0, 0, 0⟩ s) e r := by
  have hb : (bits .and .i64 s.fl 3 == 3) = false := by rw [h.fl]; decide
  have h1 : ¬ s.sz < 0 := by have := h.sz; omega
  have h2 : ¬ s.me < s.sz := by have := h.sz; omega
  have e7 : (s.ty == 7) = true := by rw [h.ty]; decide
  have et : tn1 ⟨0, 0, 0, 0⟩ s = ⟨s.ad, s.me, s.al, s.ad + upA s.me s.al⟩ := by unfold tn1; rw [if_pos e7]
  obtain ⟨u1, u2, u3⟩ := upA_all s.me s.al h.al
  have h3 : ¬ s.ad + upA s.me s.al < s.ad + s.me := by omega
  have h4 : ¬ s.al ≤ s.ad + upA s.me s.al - s.ad - s.me := by omega
  have h5 : (s.ad + upA s.me s.al) % s.al = 0 := by
    rw [Int.add_emod, h.pg, u3]; simp
  rw [et, pgsL, hb, decide_eq_false h1, decide_eq_false h2, e7]
  dsimp only
  rw [decide_eq_false h3, decide_eq_false h4, h5, h.pg]
  simp
theorem LI.pages {U : List So} {st : St} (h : LI U (ord U) st) : pgsL (tnL (segsL st.outs)) 1 (segsL st.outs) = true := by
  have hs : segsL st.outs = segK st.outs 0 ++ (segK st.outs 1 ++ (segK st.outs 2 ++ segK st.outs 3)) := by
    unfold segsL
    rw [show List.range 4 = [0, 1, 2, 3] from rfl]
    simp
  rw [hs]
  have hload : ∀ k, k < 3 → segK st.outs k = [] ∨ ∃ s, segK st.outs k = [s] ∧ LdS s ∧ st.outs.filter (inK k) ≠ [] ∧ s = seg1 k (arL (st.outs.filter (inK k))) := fun k hk => by
    by_cases e : st.outs.filter (inK k) = []
    · exact .inl (by unfold segK; rw [if_pos e])
    · exact .inr ⟨_, by unfold segK; rw [if_neg e], h.load hk e, e, rfl⟩
  have htls : segK st.outs 3 = [] ∨ ∃ s, segK st.outs 3 = [s] ∧ TlS s := by
    by_cases e : st.outs.filter (inK 3) = []
    · exact .inl (by unfold segK; rw [if_pos e])
    · exact .inr ⟨_, by unfold segK; rw [if_neg e], h.tlsS e⟩
  have tnl : ∀ (s : Sg) (t : Tn), LdS s → tn1 t s = t := fun s t hl => by unfold tn1; rw [if_neg (by rw [hl.ty]; decide)]
  have last : ∀ e, pgsL (tnL (segK st.outs 3)) e (segK st.outs 3) = true := fun e => by
    rcases htls with h3 | ⟨s, h3, ht⟩
    · rw [h3]; rfl
    · rw [h3]; exact (pgs_tls e s [] ht).trans rfl
  have tn0 : tnL (segK st.outs 0 ++ (segK st.outs 1 ++ (segK st.outs 2 ++ segK st.outs 3))) = tnL (segK st.outs 3) := by
    unfold tnL
    rw [List.foldl_append, List.foldl_append, List.foldl_append]
    have z : ∀ k, k < 3 → ∀ t, (segK st.outs k).foldl tn1 t = t := fun k hk t => by
      rcases hload k hk with e | ⟨s, e, hl, _⟩
      · rw [e]; rfl
      · rw [e]; exact tnl s t hl
    rw [z 0 (by omega), z 1 (by omega), z 2 (by omega)]
  rw [tn0]
  have g01 := fun a b => h.gap (k1 := 0) (k2 := 1) (by omega) (by omega) a b
  have g02 := fun a b => h.gap (k1 := 0) (k2 := 2) (by omega) (by omega) a b
  have g12 := fun a b => h.gap (k1 := 1) (k2 := 2) (by omega) (by omega) a b
  generalize tnL (segK st.outs 3) = t at *
  have r2 : ∀ e, (∀ s, segK st.outs 2 = [s] → e ≤ s.ad) → pgsL t e (segK st.outs 2 ++ segK st.outs 3) = true := fun e he => by
    rcases hload 2 (by omega) with q | ⟨s, q, hl, _, _⟩
    · rw [q]; exact last e
    · rw [q]; exact (pgs_load t e s _ hl (he s q)).trans (last _)
  have r1 : ∀ e, (∀ s, segK st.outs 1 = [s] → e ≤ s.ad) → (∀ s, segK st.outs 2 = [s] → e ≤ s.ad) → pgsL t e (segK st.outs 1 ++ (segK st.outs 2 ++ segK st.outs 3)) = true := fun e he he2 => by
    rcases hload 1 (by omega) with q | ⟨s, q, hl, n1, e1⟩
    · rw [q]; exact r2 e he2
    · rw [q]
      refine (pgs_load t e s _ hl (he s q)).trans (r2 _ fun s2 q2 => ?_)
      rcases hload 2 (by omega) with z | ⟨s3, z, _, n2, e2⟩
      · rw [z] at q2; cases q2
      · rw [z] at q2; injection q2 with q2; subst q2; rw [e1, e2]; exact g12 n1 n2
  rcases hload 0 (by omega) with q | ⟨s, q, hl, n0, e0⟩
  · rw [q]
    refine r1 1 (fun s2 q2 => ?_) (fun s2 q2 => ?_)
    · rcases hload 1 (by omega) with z | ⟨s3, z, hl3, _, _⟩
      · rw [z] at q2; cases q2
      · rw [z] at q2; injection q2 with q2; subst q2; have := hl3.ad; omega
    · rcases hload 2 (by omega) with z | ⟨s3, z, hl3, _, _⟩
      · rw [z] at q2; cases q2
      · rw [z] at q2; injection q2 with q2; subst q2; have := hl3.ad; omega
  · rw [q]
    refine (pgs_load t 1 s _ hl (by have := hl.ad; omega)).trans (r1 _ (fun s2 q2 => ?_) (fun s2 q2 => ?_))
    · rcases hload 1 (by omega) with z | ⟨s3, z, _, n2, e2⟩
      · rw [z] at q2; cases q2
      · rw [z] at q2; injection q2 with q2; subst q2; rw [e0, e2]; exact g01 n0 n2
    · rcases hload 2 (by omega) with z | ⟨s3, z, _, n2, e2⟩
      · rw [z] at q2; cases q2
      · rw [z] at q2; injection q2 with q2; subst q2; rw [e0, e2]; exact g02 n0 n2
end Go.Proofs.Ytojiomkinhnodaa

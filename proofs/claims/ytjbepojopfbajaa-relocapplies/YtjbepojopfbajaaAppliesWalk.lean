/- RelocApplies: the law's walk. -/
import Derived.Test.YtjbepojopfbajaaVRRel
import Derived.Test.YtjbepojopfbajaaVOpen
namespace Go.Proofs.Ytjbepojopfbajaa
open Go.ChangeShapes Go.WideShapes Go.ChangeAt Go.RowKit
set_option linter.unusedVariables false
set_option linter.unusedSimpArgs false

theorem btr6 {a w w' : World} (h : Below a.heap.size a w) (h' : Below w.heap.size w w') : Below a.heap.size a w' := h.trans (h'.mono h.size)
theorem Own.far {w w' : World} {base : Nat} {v : Value} {xs : List Int} {row : Option Nat} (h : Own w base v xs) (g : w.grownBy w' row) (hne : ∀ q, v.ownBlock = some q → row ≠ some q) : Own w' base v xs := by
  refine ⟨h.1, ?_⟩
  rcases h.2 with h | ⟨g0, cap, cur, hv, hb, hg, r⟩
  · exact .inl h
  · refine .inr ⟨g0, cap, cur, hv, hb, (g.block g0 (Array.getElem?_eq_some_iff.1 hg).1 (fun e => hne g0 (by rw [hv]; rfl) e.symm)).trans hg, r⟩
theorem Own.bel {w w' : World} {base : Nat} {v : Value} {xs : List Int} (h : Own w base v xs) (g : Below w.heap.size w w') : Own w' base v xs := by
  refine ⟨h.1, ?_⟩
  rcases h.2 with h | ⟨g0, cap, cur, hv, hb, hg, r⟩
  · exact .inl h
  · exact .inr ⟨g0, cap, cur, hv, hb, (g.block g0 (Array.getElem?_eq_some_iff.1 hg).1).trans hg, r⟩
def apN (n : Nat) (at' t : Int) (p : Pl) : Nat := if aplE n at' t p = 0 then n else 0
def apF (bs : Nat → Int) (at' t : Int) (p : Pl) : Nat → Int := putB bs (valM t p) at'.toNat (wkM t).sz.toNat
def rlN (bs : Nat → Int) (n : Nat) (t : Int) : Nat := if relB bs n t = true then n else 0
def rlO (bs : Nat → Int) (n : Nat) (t : Int) : Int := if relB bs n t = true then 141 else 0
def rlF (bs : Nat → Int) (t : Int) (i : Nat) : Int := if i = t.toNat - 2 then 141 else bs i
theorem apF_byte {bs : Nat → Int} (h : ∀ i, 0 ≤ bs i ∧ bs i < 256) (at' t : Int) (p : Pl) : ∀ i, 0 ≤ apF bs at' t p i ∧ apF bs at' t p i < 256 := putB_byte h _ _ _
theorem rlF_byte {bs : Nat → Int} (h : ∀ i, 0 ≤ bs i ∧ bs i < 256) (t : Int) : ∀ i, 0 ≤ rlF bs t i ∧ rlF bs t i < 256 := fun i => by
  unfold rlF
  split
  · omega
  · exact h i
/-- Both Applies, in one form. -/
def ApW (bs : Nat → Int) (n : Nat) (at' t : Int) (p : Pl) (w : World) (e : Ending) (w' : World) : Prop :=
  ∃ ra rc, e = .returned (.tuple #[.slice ra (apN n at' t p) rc, .int .i64 (aplE n at' t p)]) ∧ Own w' w.heap.size (.slice ra (apN n at' t p) rc) (lst (apF bs at' t p) (apN n at' t p)) ∧ Below w.heap.size w w'
theorem lst_0 (f : Nat → Int) : lst f 0 = [] := rfl
theorem apply_w (ao : Option Addr) (n cap : Nat) (bs : Nat → Int) (at' t : Int) (p : Pl) (w : World) (hrow : IsRow w ao n cap bs) (hn : n ≤ 140737488355328) (ht : -9223372036854775808 ≤ at' ∧ at' ≤ 9223372036854775807) :
    Calls Try.prog 23 #[.slice ao n cap, .int .i64 at', .int .i64 t, p.val] w fun e w' => ApW bs n at' t p w e w' := by
  refine (apply_any ao n cap bs at' t p w hrow hn ht).mono ?_
  rintro e w' (⟨h1, h2, h3⟩ | ⟨h1, a, s, rfl, h3, _, _, _, _, _, _, g, c, rfl, h10, h11⟩)
  · have e1 : apN n at' t p = 0 := if_neg h1
    refine ⟨none, 0, by rw [e1]; exact h2, by rw [e1]; exact Own.nil _ _, h3⟩
  · have e1 : apN n a t p = n := if_pos h1
    have e2 : apF bs a t p = putB bs (valM t p) a s := by unfold apF; rw [h3]; rfl
    exact ⟨_, c, by rw [e1, h1], by rw [e1, e2]; exact h10, h11⟩
theorem rapply_w (ao : Option Addr) (n cap : Nat) (bs : Nat → Int) (at' t : Int) (p : Pl) (w : World) (hrow : IsRow w ao n cap bs) (hn : n ≤ 140737488355328) (ht : -9223372036854775808 ≤ at' ∧ at' ≤ 9223372036854775807) :
    Calls Try.prog 24 #[.slice ao n cap, .int .i64 at', .int .i64 t, p.val] w fun e w' => ApW bs n at' t p w e w' := by
  refine (rapply_any ao n cap bs at' t p w hrow hn ht).mono ?_
  rintro e w' (⟨h1, h2, h3⟩ | ⟨h1, a, s, rfl, h3, g, c, rfl, h10, h11⟩)
  · have e1 : apN n at' t p = 0 := if_neg h1
    refine ⟨none, 0, by rw [e1]; exact h2, by rw [e1]; exact Own.nil _ _, h3⟩
  · have e1 : apN n a t p = n := if_pos h1
    have e2 : apF bs a t p = putB bs (valM t p) a s := by unfold apF; rw [h3]; rfl
    exact ⟨_, c, by rw [e1, h1], by rw [e1, e2]; exact h10, h11⟩
/-- Both Relaxes, in one form. -/
def RlW (bs : Nat → Int) (n : Nat) (t : Int) (w : World) (e : Ending) (w' : World) : Prop :=
  ∃ ra rc, e = .returned (.tuple #[.int .u8 (rlO bs n t), .slice ra (rlN bs n t) rc, .bool (relB bs n t)]) ∧ Own w' w.heap.size (.slice ra (rlN bs n t) rc) (lst (rlF bs t) (rlN bs n t)) ∧ Below w.heap.size w w'
theorem rlw_of {bs : Nat → Int} {n : Nat} {t : Int} {w : World} {e : Ending} {w' : World} (h : RlxU n bs t w e w') : RlW bs n t w e w' := by
  rcases h with ⟨h1, h2, h3⟩ | ⟨h1, a, rfl, h3, h4, g, c, rfl, h5, h6⟩
  · have e1 : rlN bs n t = 0 := if_neg (by rw [h1]; decide)
    have e2 : rlO bs n t = 0 := if_neg (by rw [h1]; decide)
    exact ⟨none, 0, by rw [e1, e2, h1]; exact h2, by rw [e1]; exact Own.nil _ _, h3⟩
  · have e1 : rlN bs n ((a : Int) + 3) = n := if_pos h1
    have e2 : rlO bs n ((a : Int) + 3) = 141 := if_pos h1
    refine ⟨_, c, by rw [e1, e2, h1], ?_, h6⟩
    rw [e1]
    rw [lst_set] at h5
    have e3 : (fun i => if i = a + 1 then 141 else bs i) = rlF bs ((a : Int) + 3) := by
      funext i
      unfold rlF
      rw [show ((a : Int) + 3).toNat - 2 = a + 1 by omega]
    rw [← e3]
    exact h5
set_option maxHeartbeats 1000000 in
set_option maxRecDepth 20000 in
theorem relocApplies_walk (ao : Option Addr) (n cap : Nat) (bs : Nat → Int) (at' t : Int) (p : Pl) (w : World) (hI : IsRow w ao n cap bs) (hl : n ≤ 140737488351232) (wa : (Lit.int .i64 at').wf = true) (wt : (Lit.int .i64 t).wf = true) (wp : PlW p) :
    Calls Try.prog 4 #[.slice ao n cap, .int .i64 at', .int .i64 t, p.val] w fun e w' => e = .returned (.bool true) ∧ Below w.heap.size w w' := by
  have hat := i64_bounds wa
  have HI : Hid (∀ W, Below w.heap.size w W → IsRow W ao n cap bs) := ⟨fun W h => ⟨hI.row.below h (Nat.le_refl _), hI.byte, hI.fit, hI.top, hI.nil⟩⟩
  have HZ : Hid (ao = none → n = 0 ∧ cap = 0) := ⟨hI.nil⟩
  have HY : Hid (∀ i, 0 ≤ bs i ∧ bs i < 256) := ⟨hI.byte⟩
  have HA1 : Hid (∀ va vc W, IsRow W va n vc bs → _) := ⟨fun va vc W h => apply_w va n vc bs at' t p W h (by omega) hat⟩
  have HA2 : Hid (∀ W, Below w.heap.size w W → _) := ⟨fun W h => rapply_w ao n cap bs at' t p W (HI.out W h) (by omega) hat⟩
  have HR1 : Hid (∀ va vc W, IsRow W va n vc bs → Calls Try.prog 25 #[.slice va n vc, .int .i64 at'] W fun e w' => RlW bs n at' W e w') := ⟨fun va vc W h => (relax_any va n vc bs at' W h (by omega) hat).mono fun e w' h => rlw_of h⟩
  have HR2 : Hid (∀ W, Below w.heap.size w W → Calls Try.prog 26 #[.slice ao n cap, .int .i64 at'] W fun e w' => RlW bs n at' W e w') := ⟨fun W h => (rrelax_any ao n cap bs at' W (HI.out W h) (by omega) hat).mono fun e w' h => rlw_of h⟩
  have HPL : Hid (∀ W, _) := ⟨fun W => placeV_any p W⟩
  have HL : Hid (∀ W, _) := ⟨fun W => liveV_any W⟩
  have HN : Hid (∀ n W, _) := ⟨fun n W => numV_any n W⟩
  have HF1 : Hid _ := ⟨apF_byte HY.out at' t p⟩
  have HF2 : Hid _ := ⟨rlF_byte HY.out at'⟩
  have hN1 : apN n at' t p ≤ n := by unfold apN; split <;> omega
  have hN2 : rlN bs n at' ≤ n := by unfold rlN; split <;> omega
  clear hI wa wt wp hat
  unfold ApW at HA1 HA2
  unfold RlW at HR1 HR2
  generalize apN n at' t p = N1 at *
  generalize apF bs at' t p = F1 at *
  generalize aplE n at' t p = E1 at *
  generalize rlN bs n at' = N2 at *
  generalize rlF bs at' = F2 at *
  generalize rlO bs n at' = O at *
  generalize relB bs n at' = R at *
  obtain ⟨s, a, pp, g, tt⟩ := p
  obtain ⟨w0, hw0⟩ : ∃ w0, w.alloc (.cells #[.int .i64 s, .int .i64 a, .int .i64 pp, .int .i64 g, .int .i64 tt] 23) = w0 := ⟨_, rfl⟩
  have HB0 : Hid (Below w.heap.size w w0) := ⟨by rw [← hw0]; exact vb_alloc (Below.refl _ _) _⟩
  have HP0 : Hid (VB w0 w.heap.size 23 #[.int .i64 s, .int .i64 a, .int .i64 pp, .int .i64 g, .int .i64 tt]) := ⟨by rw [← hw0]; exact VB.new _ _ _⟩
  dsimp only [Pl.val] at *
  go_enter Try.func4, Try.ntmps4
  go_upto_region 2 with (at_builtin; refine append_row _ rfl _ _ rfl w0.heap.size w0.heap.size 0 0 [] rfl (Own.empty w0 _ (Nat.le_refl _)) ao n cap bs rfl (((HI.out _ HB0.out).row).alloc _) HZ.out n (by omega) (by simp; omega) (by simp) ?_; intro g1 c1 w1 hown q1 q2 hbel; have HO1 : Hid (Own w1 w0.heap.size (.slice (some ⟨g1, 0, none⟩) n c1) (lst bs n)) := ⟨by simpa using hown⟩; have HB1 : Hid (Below w0.heap.size w0 w1) := ⟨((Below.refl _ _).alloc (Nat.le_refl _) _).trans hbel⟩; clear hown hbel q1 q2)
  have HB1' : Hid (Below w.heap.size w w1) := ⟨HB0.out.trans (HB1.out.mono HB0.out.size)⟩
  have hp1 := HP0.out.bel HB1.out HP0.out.lt
  have HX : Hid (∀ W, Below w1.heap.size w1 W → IsRow W (some ⟨g1, 0, none⟩) n c1 bs) := ⟨fun W h => by
    have h8 := own_isRow HO1.out HY.out
    exact ⟨h8.row.below h (Nat.le_refl _), h8.byte, h8.fit, h8.top, h8.nil⟩⟩
  have HP1 : Hid (∀ W, Below w1.heap.size w1 W → W.cell? ⟨w.heap.size, 0, none⟩ = some (.int .i64 s) ∧ W.cell? ⟨w.heap.size, 1, none⟩ = some (.int .i64 a) ∧ W.cell? ⟨w.heap.size, 2, none⟩ = some (.int .i64 pp) ∧ W.cell? ⟨w.heap.size, 3, none⟩ = some (.int .i64 g) ∧ W.cell? ⟨w.heap.size, 4, none⟩ = some (.int .i64 tt)) := ⟨fun W h => by
    have h2 := hp1.bel h hp1.lt
    exact ⟨h2.cell 0 rfl, h2.cell 1 rfl, h2.cell 2 rfl, h2.cell 3 rfl, h2.cell 4 rfl⟩⟩
  have HIB : Hid (∀ W, Below w1.heap.size w1 W → Below w.heap.size w W) := ⟨fun W h => HB1'.out.trans (h.mono HB1'.out.size)⟩
  clear HO1 HB0 HB1 HB1' HP0 hp1 hw0
  obtain ⟨p0, p1, p2, p3, p4⟩ := HP1.out w1 (Below.refl _ _)
  go_upto_region 3 with (go_at_call 23; refine (HA1.out _ _ _ (HX.out _ (Below.refl _ _))).mono ?_; rintro e w2 ⟨ra, rc, rfl, ho2, hb2⟩; have HO2 : Hid _ := ⟨ho2⟩; have HB2 : Hid (Below w1.heap.size w1 w2) := ⟨hb2⟩; clear ho2 hb2)
  clear p0 p1 p2 p3 p4
  obtain ⟨p0, p1, p2, p3, p4⟩ := HP1.out w2 HB2.out
  go_upto_region 6 with (first
    | (go_at_call 12; refine (HPL.out _).mono ?_; rintro e w3 ⟨rfl, hb3⟩; have HB3 : Hid (Below w1.heap.size w1 w3) := ⟨btr6 HB2.out hb3⟩; have HO3 : Hid _ := ⟨HO2.out.bel hb3⟩; clear hb3)
    | (go_at_call 24; refine (HA2.out _ (HIB.out _ HB3.out)).mono ?_; rintro e w4 ⟨ca, cc, rfl, ho4, hb4⟩; have HB4 : Hid (Below w1.heap.size w1 w4) := ⟨btr6 HB3.out hb4⟩; have HO4 : Hid _ := ⟨HO3.out.bel hb4⟩; have HC4 : Hid _ := ⟨ho4⟩; clear ho4 hb4)
    | (go_at_call 25; refine (HR1.out _ _ _ (HX.out _ HB4.out)).mono ?_; rintro e w5 ⟨la, lc, rfl, ho5, hb5⟩; have HB5 : Hid (Below w1.heap.size w1 w5) := ⟨btr6 HB4.out hb5⟩; have HO5 : Hid _ := ⟨HO4.out.bel hb5⟩; have HC5 : Hid _ := ⟨HC4.out.bel hb5⟩; have HL5 : Hid _ := ⟨ho5⟩; clear ho5 hb5)
    | (go_at_call 26; refine (HR2.out _ (HIB.out _ HB5.out)).mono ?_; rintro e w6 ⟨ma, mc, rfl, ho6, hb6⟩; have HB6 : Hid (Below w1.heap.size w1 w6) := ⟨btr6 HB5.out hb6⟩; have HO6 : Hid (Own w6 w1.heap.size (.slice ra N1 rc) (lst F1 N1)) := ⟨HO5.out.bel hb6⟩; have HC6 : Hid _ := ⟨HC5.out.bel hb6⟩; have HL6 : Hid (Own w6 w4.heap.size (.slice la N2 lc) (lst F2 N2)) := ⟨HL5.out.bel hb6⟩; have HM6 : Hid _ := ⟨ho6⟩; clear ho6 hb6))
  have HGA : Hid (∀ q, Value.ownBlock (.slice ra N1 rc) = some q → q < w4.heap.size) := ⟨fun q hq => (World.ownsRow.lt HO4.out q hq).2⟩
  have HCV : Hid (∀ W (va : Option Addr) (m vc : Nat) (f : Nat → Int), IsRow W va m vc f → Sem.run Try.prog (convert 44 9 (.slice va m vc)) W = .ok (.string (strOfNums (lst f m))) W) := ⟨fun W va m vc f h => conv_row W va m vc f h.row (fun e => (h.nil e).1)⟩
  have k1 := HCV.out w6 ra N1 rc F1 (own_isRow HO6.out HF1.out)
  have k2 := HCV.out w6 ca N1 cc F1 (own_isRow HC6.out HF1.out)
  have k3 := HCV.out w6 la N2 lc F2 (own_isRow HL6.out HF2.out)
  have k4 := HCV.out w6 ma N2 mc F2 (own_isRow HM6.out HF2.out)
  have k5 := HCV.out w6 _ n c1 bs (HX.out w6 HB6.out)
  have k6 := HCV.out w6 ao n cap bs (HI.out w6 (HIB.out _ HB6.out))
  have HKX : Hid (∀ W, Below w1.heap.size w1 W → Sem.run Try.prog (convert 44 9 (.slice (some ⟨g1, 0, none⟩) n c1)) W = .ok (.string (strOfNums (lst bs n))) W) := ⟨fun W h => HCV.out W _ n c1 bs (HX.out W h)⟩
  have HKB : Hid (∀ W, Below w1.heap.size w1 W → Sem.run Try.prog (convert 44 9 (.slice ao n cap)) W = .ok (.string (strOfNums (lst bs n))) W) := ⟨fun W h => HCV.out W ao n cap bs (HI.out W (HIB.out _ h))⟩
  clear HO2 HO3 HO4 HC4 HO5 HC5 HL5 HB2 HB3 HC6 HM6 HPL HA1 HA2 HR1 HR2 HP1 HX HI HZ p0 p1 p2 p3 p4
  generalize strOfNums (lst F1 N1) = X1 at *
  generalize strOfNums (lst F2 N2) = X2 at *
  generalize strOfNums (lst bs n) = X0 at *
  have s1 : (X1.toList == X1.toList) = true := by simp
  have s2 : (X2.toList == X2.toList) = true := by simp
  have s0 : (X0.toList == X0.toList) = true := by simp
  have s3 : (E1 != E1) = false := by simp
  have s4 : (O != O) = false := by simp
  have s5 : (R != R) = false := by simp
  go_upto_region 9 with (go_at_call 17; refine (HN.out _ _).mono ?_; rintro e wq ⟨rfl, hwq⟩; subst wq)
  clear k1 k2 k3 k4 k5 k6 s1 s2 s3 s4 s5
  have HLB : Hid (w1.heap.size ≤ w4.heap.size) := ⟨HB4.out.size⟩
  have HF1' : Hid _ := ⟨HF1.out⟩
  go_loopw [20] (fun x wr => ∃ i : Nat, i ≤ N1 ∧ x = .int .i64 i ∧ Hid (∃ f : Nat → Int, (∀ j, 0 ≤ f j ∧ f j < 256) ∧ Own wr w1.heap.size (.slice ra N1 rc) (lst f N1) ∧ Own wr w4.heap.size (.slice la N2 lc) (lst F2 N2) ∧ Below w1.heap.size w1 wr)) (fun x _ => N1 - (intOf x).toNat)
  case atStart => exact ⟨0, by omega, rfl, ⟨F1, HF1.out, HO6.out, HL6.out, HB6.out⟩⟩
  case round =>
    obtain ⟨i, hi, rfl, HW⟩ := hrel
    obtain ⟨f, hf, ho, hlo, hbw⟩ := HW.out
    by_cases hlt : i < N1
    · have hln : (lst f N1).length = N1 := lst_len _ _
      obtain ⟨gA, kA, hA, hgb, hgl, hcA⟩ := ho.lies (by rw [hln]; omega)
      rw [hln] at hA hcA
      injection hA with e1 e2 e3
      subst e1 e3
      have hcell := hcA i hlt
      rw [lst_at f N1 i hlt] at hcell
      have h5 : Own wr w1.heap.size (.slice (some ⟨gA, 0, none⟩) (lst f N1).length rc) (lst f N1) := by rw [hln]; exact ho
      have hfz := World.ownsRow.frozenAt h5 i
      have hby := hf i
      have HST : Hid _ := ⟨ho.setB i ((f i + 1) % 256)⟩
      have HNX : Hid (∃ f' : Nat → Int, (∀ j, 0 ≤ f' j ∧ f' j < 256) ∧ Own (wr.setCell ⟨gA, i, none⟩ (.int .u8 ((f i + 1) % 256))) w1.heap.size (.slice (some ⟨gA, 0, none⟩) N1 rc) (lst f' N1) ∧ Own (wr.setCell ⟨gA, i, none⟩ (.int .u8 ((f i + 1) % 256))) w4.heap.size (.slice la N2 lc) (lst F2 N2) ∧ Below w1.heap.size w1 (wr.setCell ⟨gA, i, none⟩ (.int .u8 ((f i + 1) % 256)))) := ⟨_, fun j => by
          show 0 ≤ (if j = i then (f i + 1) % 256 else f j) ∧ (if j = i then (f i + 1) % 256 else f j) < 256
          split
          · omega
          · exact hf j, HST.out.1, hlo.far HST.out.2 (fun q hq e => by
          have h1 := (World.ownsRow.lt hlo q hq).1
          have h2 := HGA.out gA rfl
          injection e with e
          omega), hbw.grown HST.out.2 hbw.size (fun q e => by cases e; exact hgb)⟩
      clear HST h5 hln hcA ho hlo hbw HW hf hgb hgl
      generalize f i = y at *
      go_wp2
      go_roundw
      case rel => exact ⟨i + 1, hlt, by go_num, HNX⟩
      case measure => simp [intOf]; omega
    · have hie : i = N1 := by omega
      subst hie
      have HL7 : Hid _ := ⟨hlo⟩
      have HB7 : Hid _ := ⟨hbw⟩
      clear ho hlo hbw HW hf HO6 HL6 HB6 HGA
      go_upto_region 13 with (fail)
      go_loopw [21] (fun x wr => ∃ i : Nat, i ≤ N2 ∧ x = .int .i64 i ∧ Hid (∃ f : Nat → Int, (∀ j, 0 ≤ f j ∧ f j < 256) ∧ Own wr w4.heap.size (.slice la N2 lc) (lst f N2) ∧ Below w1.heap.size w1 wr)) (fun x _ => N2 - (intOf x).toNat)
      case atStart => exact ⟨0, by omega, rfl, ⟨F2, HF2.out, HL7.out, HB7.out⟩⟩
      case round =>
        clear HL7 HB7
        obtain ⟨j, hj, rfl, HW⟩ := hrel
        obtain ⟨f, hf, ho, hbw⟩ := HW.out
        by_cases hlt2 : j < N2
        · have hln : (lst f N2).length = N2 := lst_len _ _
          obtain ⟨gA, kA, hA, hgb, hgl, hcA⟩ := ho.lies (by rw [hln]; omega)
          rw [hln] at hA hcA
          injection hA with e1 e2 e3
          subst e1 e3
          have hcell := hcA j hlt2
          rw [lst_at f N2 j hlt2] at hcell
          have h5 : Own wr w4.heap.size (.slice (some ⟨gA, 0, none⟩) (lst f N2).length lc) (lst f N2) := by rw [hln]; exact ho
          have hfz := World.ownsRow.frozenAt h5 j
          have hby := hf j
          have HST : Hid _ := ⟨ho.setB j ((f j + 1) % 256)⟩
          have HNX : Hid (∃ f' : Nat → Int, (∀ j, 0 ≤ f' j ∧ f' j < 256) ∧ Own (wr.setCell ⟨gA, j, none⟩ (.int .u8 ((f j + 1) % 256))) w4.heap.size (.slice (some ⟨gA, 0, none⟩) N2 lc) (lst f' N2) ∧ Below w1.heap.size w1 (wr.setCell ⟨gA, j, none⟩ (.int .u8 ((f j + 1) % 256)))) := ⟨_, fun k => by
              show 0 ≤ (if k = j then (f j + 1) % 256 else f k) ∧ (if k = j then (f j + 1) % 256 else f k) < 256
              split
              · omega
              · exact hf k, HST.out.1, hbw.grown HST.out.2 hbw.size (fun q e => by cases e; exact Nat.le_trans HLB.out hgb)⟩
          clear HST h5 hln hcA ho hbw HW hf hgb hgl
          generalize f j = y at *
          go_wp2
          go_roundw
          case rel => exact ⟨j + 1, hlt2, by go_num, HNX⟩
          case measure => simp [intOf]; omega
        · have hje : j = N2 := by omega
          subst hje
          have k5 := HKX.out wr hbw
          have k6 := HKB.out wr hbw
          have HBW : Hid (Below w.heap.size w wr) := ⟨HIB.out wr hbw⟩
          clear ho hbw HW hf
          go_wp2_with (go_at_call 22; refine (HL.out _).mono ?_; rintro e w8 ⟨rfl, hb8⟩; have HB8 : Hid _ := ⟨hb8⟩; clear hb8)
          go_ret
          exact ⟨rfl, HBW.out.trans (HB8.out.mono HBW.out.size)⟩
end Go.Proofs.Ytjbepojopfbajaa

/- clash: have two objects sections of one name that are unlike. -/
import Derived.Test.YtgoaegembijdcaaRMixed
namespace Go.Proofs.Ytgoaegembijdcaa
open Go.ChangeShapes Go.WideShapes Go.ChangeAt Go.RowKit Go.Maps
set_option linter.unusedVariables false
set_option linter.unusedSimpArgs false

def Bad2 (a b : Sec) : Prop := a.nm = b.nm ∧ (a.ty ≠ b.ty ∨ a.fl ≠ b.fl)
def Sx (l : List Fl) (i : Nat) : List Sec := (l.getD i Fl.zero).secs
def Sy (l : List Fl) (i a : Nat) : Sec := (Sx l i).getD a Sec.zero
def N1 (l : List Fl) (i : Nat) : Prop := ∀ i', i' < i → ∀ j, j < i' → ∀ a, a < (Sx l i').length → ∀ b, b < (Sx l j).length → ¬ Bad2 (Sy l i' a) (Sy l j b)
def N2 (l : List Fl) (i j : Nat) : Prop := ∀ j', j' < j → ∀ a, a < (Sx l i).length → ∀ b, b < (Sx l j').length → ¬ Bad2 (Sy l i a) (Sy l j' b)
def N3 (l : List Fl) (i j a : Nat) : Prop := ∀ a', a' < a → ∀ b, b < (Sx l j).length → ¬ Bad2 (Sy l i a') (Sy l j b)
def N4 (l : List Fl) (i j a b : Nat) : Prop := ∀ b', b' < b → ¬ Bad2 (Sy l i a) (Sy l j b')
def Clash (l : List Fl) : Prop := ∃ i, i < l.length ∧ ∃ j, j < i ∧ ∃ a, a < (Sx l i).length ∧ ∃ b, b < (Sx l j).length ∧ Bad2 (Sy l i a) (Sy l j b)
theorem N1.next {l : List Fl} {i : Nat} (h : N1 l i) (g : N2 l i i) : N1 l (i + 1) := fun i' hi => by
  rcases Nat.lt_succ_iff_lt_or_eq.1 hi with h1 | h1
  · exact h i' h1
  · subst h1; exact g
theorem N2.next {l : List Fl} {i j : Nat} (h : N2 l i j) (g : N3 l i j (Sx l i).length) : N2 l i (j + 1) := fun j' hj => by
  rcases Nat.lt_succ_iff_lt_or_eq.1 hj with h1 | h1
  · exact h j' h1
  · subst h1; exact g
theorem N3.next {l : List Fl} {i j a : Nat} (h : N3 l i j a) (g : N4 l i j a (Sx l j).length) : N3 l i j (a + 1) := fun a' ha => by
  rcases Nat.lt_succ_iff_lt_or_eq.1 ha with h1 | h1
  · exact h a' h1
  · subst h1; exact g
theorem N4.next {l : List Fl} {i j a b : Nat} (h : N4 l i j a b) (g : ¬ Bad2 (Sy l i a) (Sy l j b)) : N4 l i j a (b + 1) := fun b' hb => by
  rcases Nat.lt_succ_iff_lt_or_eq.1 hb with h1 | h1
  · exact h b' h1
  · subst h1; exact g
theorem N1.none {l : List Fl} (h : N1 l l.length) : ¬ Clash l := fun ⟨i, hi, j, hj, a, ha, b, hb, hB⟩ => h i hi j hj a ha b hb hB

set_option maxHeartbeats 8000000 in
set_option maxRecDepth 20000 in
theorem clash_any (ao : Option Addr) (c : Nat) (l : List Fl) (w : World) (hb : FlsB l) (hin : Fls w ao l) :
    Calls Try.prog 17 #[.slice ao l.length c] w fun e w' => (∃ q, e = .returned (.bool q) ∧ (q = true ↔ Clash l)) ∧ Below w.heap.size w w' := by
  have HIN : Hid (∀ W, Below w.heap.size w W → Fls W ao l) := ⟨fun W h => hin.below h (Nat.le_refl _)⟩
  have hln := hb.n
  have HNS : Hid (∀ i, i < l.length → (Sx l i).length ≤ 1048577) := ⟨fun i hi => by
    have := (hb.each l[i] (List.getElem_mem hi)).ns
    unfold Sx
    have g : l.getD i Fl.zero = l[i] := by simp [hi]
    rw [g]; exact this⟩
  have HF : Hid (Below w.heap.size w w) := ⟨Below.refl _ _⟩
  clear hb hin
  go_enter Try.func17, Try.ntmps17
  go_upto_region 2 with (fail)
  go_loopw [3] (fun i wr => ∃ k : Nat, k ≤ l.length ∧ i = .int .i64 k ∧ Hid (N1 l k ∧ Below w.heap.size w wr)) (fun i _ => l.length - (intOf i).toNat)
  case atStart => exact ⟨0, by omega, rfl, ⟨fun i' hi => by omega, HF.out⟩⟩
  case round =>
    obtain ⟨k, hk, rfl, HW⟩ := hrel
    by_cases hlt : k < l.length
    · obtain ⟨b, off, rfl, hcell⟩ : ∃ b off, ao = some ⟨b, off, none⟩ ∧ ∀ i, i < l.length → ∀ W, Below w.heap.size w W → FlAt W b (off + i * 2) (l.getD i Fl.zero) := by
        rcases HIN.out w HF.out with h | ⟨b, off, e, h⟩
        · subst h; simp at hlt
        · exact ⟨b, off, e, fun i hi W hW => (h i hi).below hW (Nat.le_refl _)⟩
      have HAT : Hid (∀ i, i < l.length → ∀ W, Below w.heap.size w W → W.cell? ⟨b, off + i * 2, none⟩ = some (.slice (l.getD i Fl.zero).sa (Sx l i).length (l.getD i Fl.zero).sc) ∧ Secs W (l.getD i Fl.zero).sa (Sx l i)) := ⟨fun i hi W hW => ⟨(hcell i hi W hW).c0, (hcell i hi W hW).ins.se⟩⟩
      clear hcell
      have hki : (k : Int) < (l.length : Int) := by omega
      have HNK := HNS.out k hlt
      have HK1 : Hid _ := ⟨HAT.out k hlt⟩
      obtain ⟨sa, hsa⟩ : ∃ x, (l.getD k Fl.zero).sa = x := ⟨_, rfl⟩
      obtain ⟨sc, hsc⟩ : ∃ x, (l.getD k Fl.zero).sc = x := ⟨_, rfl⟩
      rw [hsa, hsc] at HK1
      clear hsa hsc
      go_upto_region 5 with (fail)
      go_loopw [4] (fun i wr => ∃ j : Nat, j ≤ k ∧ i = .int .i64 j ∧ Hid (N2 l k j ∧ Below w.heap.size w wr)) (fun i _ => k - (intOf i).toNat)
      case atStart => exact ⟨0, by omega, rfl, ⟨fun i' hi => by omega, HW.out.2⟩⟩
      case round =>
        obtain ⟨j, hj, rfl, HV⟩ := hrel
        by_cases hjk : j < k
        · have hjl : j < l.length := by omega
          have hji : (j : Int) < (l.length : Int) := by omega
          have hjki : (j : Int) < (k : Int) := by omega
          have HNJ := HNS.out j hjl
          have HK2 : Hid _ := ⟨HAT.out j hjl⟩
          obtain ⟨ta, hta⟩ : ∃ x, (l.getD j Fl.zero).sa = x := ⟨_, rfl⟩
          obtain ⟨tc, htc⟩ : ∃ x, (l.getD j Fl.zero).sc = x := ⟨_, rfl⟩
          rw [hta, htc] at HK2
          clear hta htc
          obtain ⟨M, hM⟩ : ∃ x, (Sx l k).length = x := ⟨_, rfl⟩
          obtain ⟨N, hN⟩ : ∃ x, (Sx l j).length = x := ⟨_, rfl⟩
          rw [hM] at HK1 HNK
          rw [hN] at HK2 HNJ
          have HMM : Hid _ := ⟨hM⟩
          have HNN : Hid _ := ⟨hN⟩
          clear hM hN
          go_upto_region 8 with (fail)
          go_loopw [5] (fun i wr => ∃ a : Nat, a ≤ M ∧ i = .int .i64 a ∧ Hid (N3 l k j a ∧ Below w.heap.size w wr)) (fun i _ => M - (intOf i).toNat)
          case atStart => exact ⟨0, by omega, rfl, ⟨fun i' hi => by omega, HV.out.2⟩⟩
          case round =>
            obtain ⟨a, ha, rfl, HU⟩ := hrel
            have t1 := (HK1.out wr HU.out.2).1
            by_cases hal : a < M
            · have hai : (a : Int) < (M : Int) := by omega
              go_upto_region 11 with (fail)
              clear t1
              go_loopw [6] (fun i wr => ∃ x : Nat, x ≤ N ∧ i = .int .i64 x ∧ Hid (N4 l k j a x ∧ Below w.heap.size w wr)) (fun i _ => N - (intOf i).toNat)
              case atStart => exact ⟨0, by omega, rfl, ⟨fun i' hi => by omega, HU.out.2⟩⟩
              case round =>
                obtain ⟨x, hx, rfl, HT⟩ := hrel
                have t1 := (HK1.out wr HT.out.2).1
                have t2 := (HK2.out wr HT.out.2).1
                by_cases hxl : x < N
                · have hxi : (x : Int) < (N : Int) := by omega
                  obtain ⟨b1, o1, rfl, hcs⟩ : ∃ b off, sa = some ⟨b, off, none⟩ ∧ ∀ i, i < (Sx l k).length → ∀ W, Below w.heap.size w W → SecAt W b (off + i * 7) (Sy l k i) := by
                    rcases (HK1.out w HF.out).2 with h | ⟨b, off, e, h⟩
                    · exfalso; have h2 := HMM.out; rw [h] at h2; simp at h2; omega
                    · exact ⟨b, off, e, fun i hi W hW => (h i hi).below hW (Nat.le_refl _)⟩
                  obtain ⟨b2, o2, rfl, hct⟩ : ∃ b off, ta = some ⟨b, off, none⟩ ∧ ∀ i, i < (Sx l j).length → ∀ W, Below w.heap.size w W → SecAt W b (off + i * 7) (Sy l j i) := by
                    rcases (HK2.out w HF.out).2 with h | ⟨b, off, e, h⟩
                    · exfalso; have h2 := HNN.out; rw [h] at h2; simp at h2; omega
                    · exact ⟨b, off, e, fun i hi W hW => (h i hi).below hW (Nat.le_refl _)⟩
                  have HC1 : Hid _ := ⟨hcs a (by rw [HMM.out]; exact hal)⟩
                  have HC2 : Hid _ := ⟨hct x (by rw [HNN.out]; exact hxl)⟩
                  have HBAD : Hid (Bad2 (Sy l k a) (Sy l j x) → Clash l) := ⟨fun h => ⟨k, hlt, j, hjk, a, by rw [HMM.out]; exact hal, x, by rw [HNN.out]; exact hxl, h⟩⟩
                  have HNO : Hid (¬ Bad2 (Sy l k a) (Sy l j x) → N4 l k j a (x + 1)) := ⟨fun h => HT.out.1.next h⟩
                  clear hcs hct
                  generalize Sy l k a = p at *
                  generalize Sy l j x = q at *
                  obtain ⟨nm, ty, fl, al, da, dn, dc, sz, ra, rn, rc⟩ := p
                  obtain ⟨nm', ty', fl', al', da', dn', dc', sz', ra', rn', rc'⟩ := q
                  have HBW : Hid (Below w.heap.size w wr) := ⟨HT.out.2⟩
                  obtain ⟨c0, c1, c2, c3, c4, c5, c6⟩ := HC1.out wr HBW.out
                  dsimp only at c0 c1 c2 c3 c4 c5 c6
                  have K1 := Bk.new wr #[.string nm, .int .i64 ty, .int .i64 fl, .int .i64 al, .slice da dn dc, .int .i64 sz, .slice ra rn rc] 79
                  have HB1 : Hid (Below w.heap.size w (wr.alloc (.cells #[.string nm, .int .i64 ty, .int .i64 fl, .int .i64 al, .slice da dn dc, .int .i64 sz, .slice ra rn rc] 79))) := ⟨bal HBW.out _⟩
                  obtain ⟨Q1, hQ1⟩ : ∃ Q, wr.heap.size = Q := ⟨_, rfl⟩
                  rw [hQ1] at K1
                  go_upto_region 14 with (fail)
                  try rw [hQ1]
                  clear c0 c1 c2 c3 c4 c5 c6 t1 t2 hQ1
                  generalize wr.alloc (.cells #[.string nm, .int .i64 ty, .int .i64 fl, .int .i64 al, .slice da dn dc, .int .i64 sz, .slice ra rn rc] 79) = v1 at *
                  have t2 := (HK2.out v1 HB1.out).1
                  obtain ⟨c0, c1, c2, c3, c4, c5, c6⟩ := HC2.out v1 HB1.out
                  dsimp only at c0 c1 c2 c3 c4 c5 c6
                  have K2 := Bk.new v1 #[.string nm', .int .i64 ty', .int .i64 fl', .int .i64 al', .slice da' dn' dc', .int .i64 sz', .slice ra' rn' rc'] 79
                  have K3 := K1.alloc (.cells #[.string nm', .int .i64 ty', .int .i64 fl', .int .i64 al', .slice da' dn' dc', .int .i64 sz', .slice ra' rn' rc'] 79)
                  have HB2 : Hid (Below w.heap.size w (v1.alloc (.cells #[.string nm', .int .i64 ty', .int .i64 fl', .int .i64 al', .slice da' dn' dc', .int .i64 sz', .slice ra' rn' rc'] 79))) := ⟨bal HB1.out _⟩
                  obtain ⟨Q2, hQ2⟩ : ∃ Q, v1.heap.size = Q := ⟨_, rfl⟩
                  rw [hQ2] at K2
                  have HKK1 : Hid _ := ⟨K1⟩
                  clear K1
                  go_upto_region 15 with (fail)
                  try rw [hQ2]
                  clear c0 c1 c2 c3 c4 c5 c6 t2 hQ2
                  generalize v1.alloc (.cells #[.string nm', .int .i64 ty', .int .i64 fl', .int .i64 al', .slice da' dn' dc', .int .i64 sz', .slice ra' rn' rc'] 79) = v2 at *
                  have p0 : v2.cell? ⟨Q1, 0, none⟩ = some (.string nm) := K3.cell 0 rfl
                  have p1 : v2.cell? ⟨Q1, 1, none⟩ = some (.int .i64 ty) := K3.cell 1 rfl
                  have p2 : v2.cell? ⟨Q1, 2, none⟩ = some (.int .i64 fl) := K3.cell 2 rfl
                  have q0 : v2.cell? ⟨Q2, 0, none⟩ = some (.string nm') := K2.cell 0 rfl
                  have q1 : v2.cell? ⟨Q2, 1, none⟩ = some (.int .i64 ty') := K2.cell 1 rfl
                  have q2 : v2.cell? ⟨Q2, 2, none⟩ = some (.int .i64 fl') := K2.cell 2 rfl
                  clear K2 K3
                  obtain ⟨z1, hz1⟩ : ∃ z, (nm.toList == nm'.toList) = z := ⟨_, rfl⟩
                  obtain ⟨z2, hz2⟩ : ∃ z, (ty != ty') = z := ⟨_, rfl⟩
                  obtain ⟨z3, hz3⟩ : ∃ z, (fl != fl') = z := ⟨_, rfl⟩
                  have hz2' : (ty == ty') = !z2 := by rw [← hz2]; simp [bne]
                  have hz3' : (fl == fl') = !z3 := by rw [← hz3]; simp [bne]
                  have HBB : Hid ((Bad2 ⟨nm, ty, fl, al, da, dn, dc, sz, ra, rn, rc⟩ ⟨nm', ty', fl', al', da', dn', dc', sz', ra', rn', rc'⟩) ↔ (z1 && (z2 || z3)) = true) := ⟨by
                    unfold Bad2
                    rw [← hz1, ← hz2, ← hz3, nm_tl]
                    unfold nmB
                    simp⟩
                  cases z1
                  · (go_wp2; go_roundw; (case rel => exact ⟨x + 1, hxl, by go_num, ⟨HNO.out (fun h => by have := HBB.out.1 h; simp at this), HB2.out⟩⟩); (case measure => simp [intOf]; omega))
                  · cases z2
                    · cases z3
                      · (go_wp2; go_roundw; (case rel => exact ⟨x + 1, hxl, by go_num, ⟨HNO.out (fun h => by have := HBB.out.1 h; simp at this), HB2.out⟩⟩); (case measure => simp [intOf]; omega))
                      · (go_wp2; go_ret; exact ⟨⟨true, rfl, fun _ => HBAD.out (HBB.out.2 rfl), fun _ => rfl⟩, HB2.out⟩)
                    · (go_wp2; go_ret; exact ⟨⟨true, rfl, fun _ => HBAD.out (HBB.out.2 rfl), fun _ => rfl⟩, HB2.out⟩)
                · obtain rfl : x = N := by omega
                  have HX : Hid (N3 l k j (a + 1) ∧ Below w.heap.size w wr) := ⟨HU.out.1.next (by rw [HNN.out]; exact HT.out.1), HT.out.2⟩
                  clear t1
                  go_wp2
                  go_roundw
                  case rel => exact ⟨a + 1, hal, by go_num, HX⟩
                  case measure => simp [intOf]; omega
            · obtain rfl : a = M := by omega
              have HX : Hid (N2 l k (j + 1) ∧ Below w.heap.size w wr) := ⟨HV.out.1.next (by rw [HMM.out]; exact HU.out.1), HU.out.2⟩
              go_wp2
              go_roundw
              case rel => exact ⟨j + 1, hjk, by go_num, HX⟩
              case measure => simp [intOf]; omega
        · obtain rfl : j = k := by omega
          have HX : Hid (N1 l (j + 1) ∧ Below w.heap.size w wr) := ⟨HW.out.1.next HV.out.1, HV.out.2⟩
          go_wp2
          go_roundw
          case rel => exact ⟨j + 1, hlt, by go_num, HX⟩
          case measure => simp [intOf]; omega
    · obtain rfl : k = l.length := by omega
      have HX : Hid (¬ Clash l ∧ Below w.heap.size w wr) := ⟨HW.out.1.none, HW.out.2⟩
      go_wp2
      go_ret
      exact ⟨⟨false, rfl, (fun h => by cases h), fun h => absurd h HX.out.1⟩, HX.out.2⟩
end Go.Proofs.Ytgoaegembijdcaa

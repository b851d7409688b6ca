/- The contract of the document's Unmap. -/
import Derived.Test.YtpfmnopokfiheaaDRow
namespace Go.Proofs.Ytpfmnopokfiheaa
open Go.ChangeShapes Go.WideShapes Go.ChangeAt Go.RowKit Go.Maps
set_option linter.unusedVariables false
set_option linter.unusedSimpArgs false

theorem delL_eq {L : List Pz} (hu : L.Pairwise (fun p q => p.k < q.k)) {f n s : Nat} (h1 : 0 < n) (h : ∀ i, i < n → ∃ hi : s + i < L.length, L[s + i].k = f + i) : delL L f n = L.take s ++ L.drop (s + n) := by
  obtain ⟨hn, hkn⟩ := h (n - 1) (by omega)
  obtain ⟨h0, hk0⟩ := h 0 h1
  have e : L = L.take s ++ ((L.drop s).take n ++ L.drop (s + n)) := by
    rw [← List.drop_drop, List.take_append_drop, List.take_append_drop]
  have h2 : delL L f n = delL (L.take s) f n ++ (delL ((L.drop s).take n) f n ++ delL (L.drop (s + n)) f n) := by
    have : delL (L.take s ++ ((L.drop s).take n ++ L.drop (s + n))) f n = delL (L.take s) f n ++ (delL ((L.drop s).take n) f n ++ delL (L.drop (s + n)) f n) := by
      simp only [delL, List.filter_append]
    rw [← e] at this
    exact this
  have a1 : delL (L.take s) f n = L.take s := by
    unfold delL
    rw [List.filter_eq_self]
    intro p hp
    obtain ⟨i, hi, rfl⟩ := List.getElem_of_mem hp
    have hi' : i < s ∧ i < L.length := by rw [List.length_take] at hi; omega
    rw [List.getElem_take]
    have := up_at hu hi'.2 h0 (by omega)
    simp only [inB]; simp; omega
  have a2 : delL ((L.drop s).take n) f n = [] := by
    unfold delL
    rw [List.filter_eq_nil_iff]
    intro p hp
    obtain ⟨i, hi, rfl⟩ := List.getElem_of_mem hp
    have hi' : i < n := by
      have := hi
      simp at this
      omega
    obtain ⟨hi2, hk⟩ := h i hi'
    rw [List.getElem_take, List.getElem_drop]
    simp only [inB, hk]; simp; omega
  have a3 : delL (L.drop (s + n)) f n = L.drop (s + n) := by
    unfold delL
    rw [List.filter_eq_self]
    intro p hp
    obtain ⟨i, hi, rfl⟩ := List.getElem_of_mem hp
    have hi' : s + n + i < L.length := by
      have := hi
      simp at this
      omega
    rw [List.getElem_drop]
    have := up_at hu hn hi' (by omega)
    simp only [inB]; simp; omega
  rw [h2, a1, a2, a3]
  rfl

/-- A new list, laid by. -/
theorem RA.renew {w w1 : World} {rb : Nat} {lv v : Value} {pb : Nat → Nat} {L L' : List Pz} (h : RA w rb lv pb L) (hb : Below w.heap.size w w1) (ho : OwnP w1 w.heap.size v pb L') (hs : ∀ p ∈ L', p ∈ L) (hz : Mz L') :
    RX w (w1.setCell ⟨rb, 0, none⟩ v) rb lv pb L L' := by
  have hr := h.rlt
  have hc1 : w1.heap[rb]? = some (.cells #[lv] 28) := by rw [hb.block rb hr]; exact h.cells
  have hne : ∀ c, c ≠ rb → (w1.setCell ⟨rb, 0, none⟩ v).heap[c]? = w1.heap[c]? := fun c hne => Below.heap_setCell _ _ _ _ (by simpa using hne)
  refine ⟨v, pb, ⟨?_, ?_, fun p hp => ?_, fun p hp q hq e => h.inj p (hs p hp) q (hs q hq) e, hz⟩, (Turn.of_below hb _).setCell _ (.inl (.inl rfl)) _, fun b hb' => ?_⟩
  · rw [setCell_eq_setRow w1 rb 0 _ _ _ v hc1, setRow_heap w1 rb _ _ _ _ hc1]
    rfl
  · have := ownsRow_setCell_below ho (a := ⟨rb, 0, none⟩) hr v
    refine ⟨this.1, ?_⟩
    rcases this.2 with hn | ⟨g, cap, cur, e1, e2, rest⟩
    · exact .inl hn
    · exact .inr ⟨g, cap, cur, e1, Nat.zero_le _, rest⟩
  · rw [hne _ (h.brb (hs p hp)), hb.block _ (h.blt (hs p hp))]
    exact h.bytes p (hs p hp)
  · rcases hb' with rfl | hb' | ⟨p, hp, rfl⟩
    · exact .inl (.inl rfl)
    · exact .inr (ho.lt b hb').1
    · exact .inl (.inr (.inr ⟨p, hs p hp, rfl⟩))

theorem runmap_bad (rb a : Nat) (lv : Value) (pb : Nat → Nat) (L : List Pz) (pages : Int) (w : World) (h : RA w rb lv pb L) (ha : a < 18446744073709551616) (hp : -9223372036854775808 ≤ pages ∧ pages ≤ 9223372036854775807) (hL : L.length ≤ 1048576) (hE : thrE L a pages 0 ≠ 0) :
    Calls Try.prog 30 #[.pointer (some ⟨rb, 0, none⟩), .int .u64 a, .int .i64 pages] w fun e w' => e = .returned (.int .i64 (thrE L a pages 0)) ∧ w' = w := by
  have HN := wrong_any a pages 0 w ha hp
  by_cases hN : namE a pages 0 = 0
  · obtain ⟨p1, p2, p3, p4, p5, p6⟩ := namE_ok hN
    have HA := all_any rb (a / 4096) pages.toNat lv pb L w h (by omega) hL
    rw [show a / 4096 * 4096 = a by omega, show ((pages.toNat : Nat) : Int) = pages by omega] at HA
    have hin : inN L (a / 4096) (a / 4096 + pages.toNat) < pages.toNat := by
      refine Classical.byContradiction fun c => hE ?_
      unfold thrE
      rw [if_neg (by simpa using hN), if_neg c]
    have HT : Hid (thrE L a pages 0 = 60) := ⟨by unfold thrE; rw [if_neg (by simpa using hN), if_pos hin]⟩
    unfold allV at HA
    rw [if_pos hin] at HA
    rw [HT.out]
    rw [hN] at HN
    clear h hN hE p1 p2 p3 p4 p5 p6 hin ha hp
    go_enter Try.func30, Try.ntmps30
    go_wp2_with (first
      | (go_at_call 52; with_reducible refine HN.mono ?_; rintro e w1 ⟨he, hw⟩; subst he; subst hw)
      | (go_at_call 53; with_reducible refine HA.mono ?_; rintro e w1 ⟨he, hw⟩; subst he; subst hw))
    go_ret
    exact ⟨rfl, rfl⟩
  · have HT : thrE L a pages 0 = namE a pages 0 := by unfold thrE; rw [if_pos hN]
    rw [HT]
    generalize namE a pages 0 = q at *
    have q1 : (q == 0) = false := by simpa using hN
    have q2 : (q != 0) = true := by simpa using hN
    clear h hE HT hN
    go_enter Try.func30, Try.ntmps30
    go_wp2_with (go_at_call 52; with_reducible refine HN.mono ?_; rintro e w1 ⟨he, hw⟩; subst he; subst hw)
    go_ret
    exact ⟨rfl, rfl⟩

set_option maxHeartbeats 1000000 in
theorem runmap_done (rb a : Nat) (lv : Value) (pb : Nat → Nat) (L : List Pz) (pages : Int) (w : World) (h : RA w rb lv pb L) (ha : a < 18446744073709551616) (hp : -9223372036854775808 ≤ pages ∧ pages ≤ 9223372036854775807) (hL : L.length ≤ 1024) (hE : thrE L a pages 0 = 0) :
    Calls Try.prog 30 #[.pointer (some ⟨rb, 0, none⟩), .int .u64 a, .int .i64 pages] w fun e w' => e = .returned (.int .i64 (thrE L a pages 0)) ∧ RX w w' rb lv pb L (unmL L a pages) := by
  have HN := wrong_any a pages 0 w ha hp
  have hN := thr_nam hE
  obtain ⟨p1, p2, p3, p4, p5, p6⟩ := namE_ok hN
  have HA := all_any rb (a / 4096) pages.toNat lv pb L w h (by omega) (by omega)
  have hpn : ((pages.toNat : Nat) : Int) = pages := by omega
  rw [show a / 4096 * 4096 = a by omega, hpn] at HA
  have hin : ¬ inN L (a / 4096) (a / 4096 + pages.toNat) < pages.toNat := fun hi => by
    unfold thrE at hE
    rw [if_neg (by simpa using hN), if_pos hi] at hE
    cases hE
  have hall := all_of h.mz.up hin
  have h1 : 0 < pages.toNat := by omega
  have HL : unmL L a pages = L.take (fix L (a / 4096)) ++ L.drop (fix L (a / 4096) + pages.toNat) := by
    unfold unmL; rw [if_pos hE]; exact delL_eq h.mz.up h1 hall
  have HZ : Mz (L.take (fix L (a / 4096)) ++ L.drop (fix L (a / 4096) + pages.toNat)) := by
    rw [← delL_eq h.mz.up h1 hall]
    exact ⟨fun p hp => h.mz.ok p (delL_mem.1 hp).1, delL_up h.mz.up _ _⟩
  have hmem : ∀ p ∈ L.take (fix L (a / 4096)) ++ L.drop (fix L (a / 4096) + pages.toNat), p ∈ L := fun p hp => by
    rcases List.mem_append.1 hp with hp | hp
    · exact List.mem_of_mem_take hp
    · exact List.mem_of_mem_drop hp
  unfold allV at HA
  rw [if_neg hin] at HA
  rw [HL, hE]
  rw [hN] at HN
  have hsn : fix L (a / 4096) + (pages.toNat - 1) < L.length := by obtain ⟨h, _⟩ := hall (pages.toNat - 1) (by omega); exact h
  generalize fix L (a / 4096) = s at *
  obtain ⟨n, hn⟩ : ∃ n, pages.toNat = n := ⟨_, rfl⟩
  rw [hn] at hpn HZ hmem hsn h1
  rw [hn]
  subst hpn
  obtain ⟨ao1, c1, hs1, hg1⟩ := h.row.to' (s := s) (by omega)
  obtain ⟨ao2, c2, hs2, hg2⟩ := h.row.from' (s := s + n) (by omega)
  have c0 := h.rcell
  have e1 : (s : Int) + (n : Int) = ((s + n : Nat) : Int) := by omega
  have e2 : ((s + n : Nat) : Int) ≤ 1048576 := by omega
  have HM : Hid _ := ⟨h⟩
  have HG1 : Hid _ := ⟨hg1⟩
  have HG2 : Hid _ := ⟨hg2⟩
  have HZ' : Hid _ := ⟨HZ⟩
  have Hmem : Hid _ := ⟨hmem⟩
  have hl1 : Hid ((L.take s).length = s ∧ (L.drop (s + n)).length = L.length - (s + n) ∧ (L.take s).length + (L.drop (s + n)).length ≤ 1048576) := ⟨by simp; omega, by simp, by simp; omega⟩
  have fz := h.rfrz
  have hrl := h.rlt
  obtain ⟨t, ht⟩ : ∃ t, t = s + n := ⟨_, rfl⟩
  rw [← ht] at hs2 HG2 HZ' Hmem hl1 e1 e2
  rw [← ht]
  clear h HL hE hin hall p1 p2 p3 p4 p5 p6 hsn hN hn ha hp HZ hmem hg1 hg2 ht
  go_enter Try.func30, Try.ntmps30
  have tk : True := trivial
  go_wp2_with (first
      | (go_at_call 52; with_reducible refine HN.mono ?_; rintro e w1 ⟨he, hw⟩; subst he; subst hw)
      | (go_at_call 53; with_reducible refine HA.mono ?_; rintro e w2 ⟨he, hw⟩; subst he; subst hw)
      | (at_builtin; have _t := tk; refine append_pgs _ rfl _ _ rfl _ _ pb [] rfl (OwnP.nil _ _ _) _ _ _ _ rfl hl1.out.1.symm HG1.out (by simp; omega) (Nat.le_refl _) ?_; intro v1 w3 ho1 hb1 _; clear tk _t; have k0 := (hb1.cell (p := ⟨rb, 0, none⟩) hrl).trans c0; have kf := (hb1.frozen (p := ⟨rb, 0, none⟩) hrl).trans fz)
      | (at_builtin; refine append_pgs _ rfl _ _ rfl _ _ pb _ rfl ho1 _ _ _ _ rfl hl1.out.2.1.symm (HG2.out.below hb1) (by simp; omega) hb1.size ?_; intro v2 w4 ho2 hb2 _; have kf2 := (hb2.frozen (p := ⟨rb, 0, none⟩) hrl).trans kf; have k2 := (hb2.cell (p := ⟨rb, 0, none⟩) hrl).trans k0; obtain ⟨ao3, c3, hv3, _⟩ := ho2.any; subst hv3; have HO2 : Hid _ := ⟨ho2⟩; clear ho2))
  go_ret
  exact ⟨rfl, HM.out.renew (hb1.trans hb2) (by simpa using HO2.out) Hmem.out HZ'.out⟩

theorem runmap_any (rb a : Nat) (lv : Value) (pb : Nat → Nat) (L : List Pz) (pages : Int) (w : World) (h : RA w rb lv pb L) (ha : a < 18446744073709551616) (hp : -9223372036854775808 ≤ pages ∧ pages ≤ 9223372036854775807) (hL : L.length ≤ 1024) :
    Calls Try.prog 30 #[.pointer (some ⟨rb, 0, none⟩), .int .u64 a, .int .i64 pages] w fun e w' => e = .returned (.int .i64 (thrE L a pages 0)) ∧ RX w w' rb lv pb L (unmL L a pages) := by
  by_cases hE : thrE L a pages 0 = 0
  · exact runmap_done rb a lv pb L pages w h ha hp hL hE
  · refine (runmap_bad rb a lv pb L pages w h ha hp (by omega) hE).mono ?_
    rintro e w' ⟨he, hw⟩
    subst hw
    refine ⟨he, ?_⟩
    unfold unmL
    rw [if_neg hE]
    exact RX.same h (Below.refl _ _)
end Go.Proofs.Ytpfmnopokfiheaa

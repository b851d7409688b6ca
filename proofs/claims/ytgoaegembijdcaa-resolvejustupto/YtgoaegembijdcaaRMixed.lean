/- mixed: is a name both of thread-local data and of something else. -/
import Derived.Test.YtgoaegembijdcaaRDefd
namespace Go.Proofs.Ytgoaegembijdcaa
open Go.ChangeShapes Go.WideShapes Go.ChangeAt Go.RowKit Go.Maps
set_option linter.unusedVariables false
set_option linter.unusedSimpArgs false

def cM (n : ByteArray) (x : Oc) : Bool := nmB x.s.nm n && !(x.s.b == 0)
def mT (n : ByteArray) (l : List Oc) : Bool := l.any (fun x => cM n x && isTl x)
def mO (n : ByteArray) (l : List Oc) : Bool := l.any (fun x => cM n x && isOt x)
theorem mT_snoc (n : ByteArray) (l : List Oc) (x : Oc) : mT n (l ++ [x]) = (mT n l || (cM n x && isTl x)) := by simp [mT, List.any_append]
theorem mO_snoc (n : ByteArray) (l : List Oc) (x : Oc) : mO n (l ++ [x]) = (mO n l || (cM n x && isOt x)) := by simp [mO, List.any_append]

set_option maxHeartbeats 8000000 in
set_option maxRecDepth 20000 in
theorem mixed_any (ao : Option Addr) (c : Nat) (l : List Fl) (n : ByteArray) (w : World) (hb : FlsB l) (hin : Fls w ao l) :
    Calls Try.prog 19 #[.slice ao l.length c, .string n] w fun e w' => e = .returned (.bool (mT n (occ l) && mO n (occ l))) ∧ Below w.heap.size w w' := by
  have HIN : Hid (∀ W, Below w.heap.size w W → Fls W ao l) := ⟨fun W h => hin.below h (Nat.le_refl _)⟩
  have HSUM : Hid _ := ⟨hb.sum.1⟩
  have hln := hb.n
  have HNY : Hid (∀ f ∈ l, f.syms.length ≤ 1048577) := ⟨fun f hf => (hb.each f hf).ny⟩
  have HF : Hid (Below w.heap.size w w) := ⟨Below.refl _ _⟩
  clear hb hin
  go_enter Try.func19, Try.ntmps19
  go_upto_region 4 with (fail)
  go_loopw [5, 6, 7] (fun v1 v2 i wr => ∃ k : Nat, k ≤ l.length ∧ i = .int .i64 k ∧ v1 = .bool (mT n (occ (l.take k))) ∧ v2 = .bool (mO n (occ (l.take k))) ∧ Hid (Below w.heap.size w wr)) (fun _ _ i _ => l.length - (intOf i).toNat)
  case atStart => exact ⟨0, by omega, rfl, rfl, rfl, ⟨HF.out⟩⟩
  case round =>
    obtain ⟨k, hk, rfl, rfl, rfl, HW⟩ := hrel
    by_cases hlt : k < l.length
    · obtain ⟨b, off, rfl, hcell⟩ : ∃ b off, ao = some ⟨b, off, none⟩ ∧ ∀ i, i < l.length → ∀ W, Below w.heap.size w W → FlAt W b (off + i * 2) (l.getD i Fl.zero) := by
        rcases HIN.out w HF.out with h | ⟨b, off, e, h⟩
        · subst h; simp at hlt
        · exact ⟨b, off, e, fun i hi W hW => (h i hi).below hW (Nat.le_refl _)⟩
      have hget : l.getD k Fl.zero = l[k] := by simp [hlt]
      have HAT : Hid (∀ W, Below w.heap.size w W → FlAt W b (off + k * 2) l[k]) := ⟨fun W hW => by have := hcell k hlt W hW; rwa [hget] at this⟩
      have hny := HNY.out _ (List.getElem_mem hlt)
      have HOC : Hid (occ (l.take (k + 1)) = occ (l.take k) ++ ocs k l[k].syms) := ⟨occ_take l k hlt⟩
      have HLU : Hid (∀ j, (occ (l.take k) ++ ocs k (l[k].syms.take j)).length ≤ 2097152) := ⟨fun j => Nat.le_trans (occ_sub l k j hlt) HSUM.out⟩
      have HMEM : Hid (∀ j s, l[k].syms[j]? = some s → (⟨k, j, s⟩ : Oc) ∈ occ l) := ⟨fun j s h => mem_occ.2 ⟨l[k], by simp [hlt], h⟩⟩
      clear hcell hget
      have hki : (k : Int) < (l.length : Int) := by omega
      obtain ⟨f, hf⟩ : ∃ f, f = l[k] := ⟨_, rfl⟩
      rw [← hf] at HAT HOC HLU hny HMEM
      clear hf
      obtain ⟨sa, sc, secs, ya, yc, syms⟩ := f
      dsimp only at hny HOC HLU HMEM
      have HT1 : Hid (∀ W, Below w.heap.size w W → W.cell? ⟨b, off + k * 2 + 1, none⟩ = some (.slice ya syms.length yc)) := ⟨fun W hW => (HAT.out W hW).c1⟩
      have HT2 : Hid (∀ W, Below w.heap.size w W → Syms W ya syms) := ⟨fun W hW => (HAT.out W hW).ins.sy⟩
      clear HAT
      obtain ⟨U1, hU1⟩ : ∃ u, u = occ (l.take (k + 1)) := ⟨_, rfl⟩
      rw [← hU1] at HOC
      have HU1 : Hid _ := ⟨hU1⟩
      clear hU1
      generalize occ (l.take k) = U0 at *
      go_upto_region 7 with (fail)
      go_loopw [5, 6, 8] (fun v1 v2 i wr => ∃ j : Nat, j ≤ syms.length ∧ i = .int .i64 j ∧ v1 = .bool (mT n (U0 ++ ocs k (syms.take j))) ∧ v2 = .bool (mO n (U0 ++ ocs k (syms.take j))) ∧ Hid (Below w.heap.size w wr)) (fun _ _ i _ => syms.length - (intOf i).toNat)
      case atStart => exact ⟨0, by omega, rfl, (by simp [ocs]), (by simp [ocs]), ⟨HW.out⟩⟩
      case round =>
        obtain ⟨j, hj, rfl, rfl, rfl, HV⟩ := hrel
        have t1 := HT1.out wr HV.out
        by_cases hlj : j < syms.length
        · obtain ⟨b2, off2, rfl, hcell⟩ : ∃ b off, ya = some ⟨b, off, none⟩ ∧ ∀ i, i < syms.length → SymAt wr b (off + i * 6) (syms.getD i Sym.none) := by
            rcases HT2.out wr HV.out with h | h
            · subst h; simp at hlj
            · exact h
          obtain ⟨c0, c1, c2, c3, c4, c5⟩ := hcell j hlj
          have hget : syms.getD j Sym.none = syms[j] := by simp [hlj]
          rw [hget] at c0 c1 c2 c3 c4 c5
          have hji : (j : Int) < (syms.length : Int) := by omega
          have HTK : Hid (ocs k (syms.take (j + 1)) = ocs k (syms.take j) ++ [⟨k, j, syms[j]⟩]) := ⟨ocs_take k syms j hlj⟩
          have HLJ : Hid _ := ⟨HLU.out j⟩
          clear hcell hget
          have HMJ : Hid ((⟨k, j, syms[j]⟩ : Oc) ∈ occ l) := ⟨HMEM.out j syms[j] (by simp [hlj])⟩
          obtain ⟨s, hs⟩ : ∃ s, s = syms[j] := ⟨_, rfl⟩
          rw [← hs] at c0 c1 c2 c3 c4 c5 HTK HMJ
          clear hs
          obtain ⟨Us0, hUs⟩ : ∃ u, u = U0 ++ ocs k (syms.take j) := ⟨_, rfl⟩
          have HTK2 : Hid (U0 ++ ocs k (syms.take (j + 1)) = Us0 ++ [⟨k, j, s⟩]) := ⟨by rw [HTK.out, hUs, List.append_assoc]⟩
          rw [← hUs] at HLJ
          rw [← hUs]
          clear hUs HTK
          obtain ⟨nm, sn, sv, sz, bd, ty⟩ := s
          dsimp only at c0 c1 c2 c3 c4 c5
          have K := Bk.new wr #[.string nm, .string sn, .int .i64 sv, .int .i64 sz, .int .i64 bd, .int .i64 ty] 54
          have HBV : Hid (Below w.heap.size w (wr.alloc (.cells #[.string nm, .string sn, .int .i64 sv, .int .i64 sz, .int .i64 bd, .int .i64 ty] 54))) := ⟨HV.out.alloc HV.out.size _⟩
          obtain ⟨Q, hQ⟩ : ∃ Q, wr.heap.size = Q := ⟨_, rfl⟩
          rw [hQ] at K
          go_upto_region 10 with (fail)
          try rw [hQ]
          have d0 : (wr.alloc (.cells #[.string nm, .string sn, .int .i64 sv, .int .i64 sz, .int .i64 bd, .int .i64 ty] 54)).cell? ⟨Q, 0, none⟩ = some (.string nm) := K.cell 0 rfl
          have d1 : (wr.alloc (.cells #[.string nm, .string sn, .int .i64 sv, .int .i64 sz, .int .i64 bd, .int .i64 ty] 54)).cell? ⟨Q, 1, none⟩ = some (.string sn) := K.cell 1 rfl
          have d4 : (wr.alloc (.cells #[.string nm, .string sn, .int .i64 sv, .int .i64 sz, .int .i64 bd, .int .i64 ty] 54)).cell? ⟨Q, 4, none⟩ = some (.int .i64 bd) := K.cell 4 rfl
          have d5 : (wr.alloc (.cells #[.string nm, .string sn, .int .i64 sv, .int .i64 sz, .int .i64 bd, .int .i64 ty] 54)).cell? ⟨Q, 5, none⟩ = some (.int .i64 ty) := K.cell 5 rfl
          clear K c0 c1 c2 c3 c4 c5 t1 hQ
          generalize (wr.alloc (.cells #[.string nm, .string sn, .int .i64 sv, .int .i64 sz, .int .i64 bd, .int .i64 ty] 54)) = v2 at *
          obtain ⟨z1, hz1⟩ : ∃ z, (nm.toList == n.toList) = z := ⟨_, rfl⟩
          have hn1 : nmB nm n = z1 := by rw [← nm_tl]; exact hz1
          obtain ⟨z3, hz3⟩ : ∃ z, sn.toList.isEmpty = z := ⟨_, rfl⟩
          obtain ⟨z2, hz2⟩ : ∃ z, (bd == 0) = z := ⟨_, rfl⟩
          have hz2n : (bd != 0) = !z2 := by rw [bne, hz2]
          obtain ⟨z6, hz6⟩ : ∃ z, (ty == 6) = z := ⟨_, rfl⟩
          have hz6n : (ty != 6) = !z6 := by rw [bne, hz6]
          obtain ⟨z0, hz0⟩ : ∃ z, (ty == 0) = z := ⟨_, rfl⟩
          have hz0n : (ty != 0) = !z0 := by rw [bne, hz0]
          have HTT : Hid (mT n (U0 ++ ocs k (syms.take (j + 1))) = (mT n Us0 || ((z1 && !z2) && z6))) := ⟨by rw [HTK2.out, mT_snoc]; unfold cM isTl; dsimp only; rw [hn1, hz2, hz6]⟩
          have HOO : Hid (mO n (U0 ++ ocs k (syms.take (j + 1))) = (mO n Us0 || ((z1 && !z2) && (!z6 && !z0)))) := ⟨by rw [HTK2.out, mO_snoc]; unfold cM isOt; dsimp only; rw [hn1, hz2, hz6, hz0]⟩
          generalize mT n Us0 = tA at *
          generalize mO n Us0 = oA at *
          cases z1
          · (go_wp2; go_roundw; (case rel => exact ⟨j + 1, hlj, by go_num, (by rw [HTT.out]; simp), (by rw [HOO.out]; simp), ⟨HBV.out⟩⟩); (case measure => simp [intOf]; omega))
          · cases z2
            · cases tA
              · cases oA
                · cases z6
                  · cases z0
                    · (go_wp2; go_roundw; (case rel => exact ⟨j + 1, hlj, by go_num, (by rw [HTT.out]; simp), (by rw [HOO.out]; simp), ⟨HBV.out⟩⟩); (case measure => simp [intOf]; omega))
                    · (go_wp2; go_roundw; (case rel => exact ⟨j + 1, hlj, by go_num, (by rw [HTT.out]; simp), (by rw [HOO.out]; simp), ⟨HBV.out⟩⟩); (case measure => simp [intOf]; omega))
                  · (go_wp2; go_roundw; (case rel => exact ⟨j + 1, hlj, by go_num, (by rw [HTT.out]; simp), (by rw [HOO.out]; simp), ⟨HBV.out⟩⟩); (case measure => simp [intOf]; omega))
                · cases z6
                  · (go_wp2; go_roundw; (case rel => exact ⟨j + 1, hlj, by go_num, (by rw [HTT.out]; simp), (by rw [HOO.out]; simp), ⟨HBV.out⟩⟩); (case measure => simp [intOf]; omega))
                  · (go_wp2; go_roundw; (case rel => exact ⟨j + 1, hlj, by go_num, (by rw [HTT.out]; simp), (by rw [HOO.out]; simp), ⟨HBV.out⟩⟩); (case measure => simp [intOf]; omega))
              · cases oA
                · cases z6
                  · cases z0
                    · (go_wp2; go_roundw; (case rel => exact ⟨j + 1, hlj, by go_num, (by rw [HTT.out]; simp), (by rw [HOO.out]; simp), ⟨HBV.out⟩⟩); (case measure => simp [intOf]; omega))
                    · (go_wp2; go_roundw; (case rel => exact ⟨j + 1, hlj, by go_num, (by rw [HTT.out]; simp), (by rw [HOO.out]; simp), ⟨HBV.out⟩⟩); (case measure => simp [intOf]; omega))
                  · (go_wp2; go_roundw; (case rel => exact ⟨j + 1, hlj, by go_num, (by rw [HTT.out]; simp), (by rw [HOO.out]; simp), ⟨HBV.out⟩⟩); (case measure => simp [intOf]; omega))
                · (go_wp2; go_roundw; (case rel => exact ⟨j + 1, hlj, by go_num, (by rw [HTT.out]; simp), (by rw [HOO.out]; simp), ⟨HBV.out⟩⟩); (case measure => simp [intOf]; omega))
            · (go_wp2; go_roundw; (case rel => exact ⟨j + 1, hlj, by go_num, (by rw [HTT.out]; simp), (by rw [HOO.out]; simp), ⟨HBV.out⟩⟩); (case measure => simp [intOf]; omega))
        · obtain rfl : j = syms.length := by omega
          rw [List.take_of_length_le (Nat.le_refl _), ← HOC.out]
          have HX : Hid _ := ⟨HV.out⟩
          go_wp2
          go_roundw
          case rel => exact ⟨k + 1, hlt, by go_num, (by rw [HU1.out]), (by rw [HU1.out]), ⟨HX.out⟩⟩
          case measure => simp [intOf]; omega
    · obtain rfl : k = l.length := by omega
      rw [List.take_of_length_le (Nat.le_refl _)] at *
      have HX : Hid _ := ⟨HW.out⟩
      obtain ⟨tA, hT⟩ : ∃ z, mT n (occ l) = z := ⟨_, rfl⟩
      rw [hT]
      have HTA : Hid _ := ⟨hT⟩
      clear hT
      cases tA
      · (go_wp2; go_ret; exact ⟨by rw [HTA.out]; rfl, HX.out⟩)
      · (go_wp2; go_ret; exact ⟨by rw [HTA.out]; rfl, HX.out⟩)
end Go.Proofs.Ytgoaegembijdcaa

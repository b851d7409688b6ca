/- strong: how many strong definitions a name has. -/
import Derived.Test.YtgoaegembijdcaaMoreWalk
namespace Go.Proofs.Ytgoaegembijdcaa
open Go.ChangeShapes Go.WideShapes Go.ChangeAt Go.RowKit Go.Maps
set_option linter.unusedVariables false
set_option linter.unusedSimpArgs false

def cS (n : ByteArray) (x : Oc) : Bool := (nmB x.s.nm n && (x.s.b == 1)) && !empB x.s.sc
def nS (n : ByteArray) (l : List Oc) : Nat := l.countP (cS n)
theorem nS_le (n : ByteArray) (l : List Oc) : nS n l ≤ l.length := List.countP_le_length
theorem nS_yes {n : ByteArray} {l : List Oc} {x : Oc} (h : cS n x = true) : nS n (l ++ [x]) = nS n l + 1 := by simp [nS, List.countP_append, h]
theorem nS_no {n : ByteArray} {l : List Oc} {x : Oc} (h : cS n x = false) : nS n (l ++ [x]) = nS n l := by simp [nS, List.countP_append, h]

set_option maxHeartbeats 8000000 in
set_option maxRecDepth 20000 in
theorem strong_any (ao : Option Addr) (c : Nat) (l : List Fl) (n : ByteArray) (w : World) (hb : FlsB l) (hin : Fls w ao l) :
    Calls Try.prog 18 #[.slice ao l.length c, .string n] w fun e w' => e = .returned (.int .i64 (nS n (occ l) : Nat)) ∧ Below w.heap.size w w' := by
  have HIN : Hid (∀ W, Below w.heap.size w W → Fls W ao l) := ⟨fun W h => hin.below h (Nat.le_refl _)⟩
  have HSUM : Hid _ := ⟨hb.sum.1⟩
  have hln := hb.n
  have HNY : Hid (∀ f ∈ l, f.syms.length ≤ 1048577) := ⟨fun f hf => (hb.each f hf).ny⟩
  have HF : Hid (Below w.heap.size w w) := ⟨Below.refl _ _⟩
  clear hb hin
  go_enter Try.func18, Try.ntmps18
  go_upto_region 3 with (fail)
  go_loopw [5, 6] (fun v i wr => ∃ k : Nat, k ≤ l.length ∧ i = .int .i64 k ∧ v = .int .i64 (nS n (occ (l.take k)) : Nat) ∧ Hid (Below w.heap.size w wr)) (fun _ i _ => l.length - (intOf i).toNat)
  case atStart => exact ⟨0, by omega, rfl, rfl, ⟨HF.out⟩⟩
  case round =>
    obtain ⟨k, hk, rfl, rfl, HW⟩ := hrel
    by_cases hlt : k < l.length
    · obtain ⟨b, off, rfl, hcell⟩ : ∃ b off, ao = some ⟨b, off, none⟩ ∧ ∀ i, i < l.length → ∀ W, Below w.heap.size w W → FlAt W b (off + i * 2) (l.getD i Fl.zero) := by
        rcases HIN.out w HF.out with h | ⟨b, off, e, h⟩
        · subst h; simp at hlt
        · exact ⟨b, off, e, fun i hi W hW => (h i hi).below hW (Nat.le_refl _)⟩
      have hget : l.getD k Fl.zero = l[k] := by simp [hlt]
      have HAT : Hid (∀ W, Below w.heap.size w W → FlAt W b (off + k * 2) l[k]) := ⟨fun W hW => by have := hcell k hlt W hW; rwa [hget] at this⟩
      have hny := HNY.out _ (List.getElem_mem hlt)
      have HOC : Hid (occ (l.take (k + 1)) = occ (l.take k) ++ ocs k l[k].syms) := ⟨occ_take l k hlt⟩
      have HLU : Hid (∀ j, (occ (l.take k) ++ ocs k (l[k].syms.take j)).length ≤ 2097152) := ⟨fun j => Nat.le_trans (occ_sub l k j hlt) HSUM.out⟩
      have HMEM : Hid (∀ j s, l[k].syms[j]? = some s → (⟨k, j, s⟩ : Oc) ∈ occ l) := ⟨fun j s h => mem_occ.2 ⟨l[k], by simp [hlt], h⟩⟩
      clear hcell hget
      have hki : (k : Int) < (l.length : Int) := by omega
      obtain ⟨f, hf⟩ : ∃ f, f = l[k] := ⟨_, rfl⟩
      rw [← hf] at HAT HOC HLU hny HMEM
      clear hf
      obtain ⟨sa, sc, secs, ya, yc, syms⟩ := f
      dsimp only at hny HOC HLU HMEM
      have HT1 : Hid (∀ W, Below w.heap.size w W → W.cell? ⟨b, off + k * 2 + 1, none⟩ = some (.slice ya syms.length yc)) := ⟨fun W hW => (HAT.out W hW).c1⟩
      have HT2 : Hid (∀ W, Below w.heap.size w W → Syms W ya syms) := ⟨fun W hW => (HAT.out W hW).ins.sy⟩
      clear HAT
      obtain ⟨U1, hU1⟩ : ∃ u, u = occ (l.take (k + 1)) := ⟨_, rfl⟩
      rw [← hU1] at HOC
      have HU1 : Hid _ := ⟨hU1⟩
      clear hU1
      generalize occ (l.take k) = U0 at *
      go_upto_region 6 with (fail)
      go_loopw [5, 7] (fun v i wr => ∃ j : Nat, j ≤ syms.length ∧ i = .int .i64 j ∧ v = .int .i64 (nS n (U0 ++ ocs k (syms.take j)) : Nat) ∧ Hid (Below w.heap.size w wr)) (fun _ i _ => syms.length - (intOf i).toNat)
      case atStart => exact ⟨0, by omega, rfl, (by simp [ocs]), ⟨HW.out⟩⟩
      case round =>
        obtain ⟨j, hj, rfl, rfl, HV⟩ := hrel
        have t1 := HT1.out wr HV.out
        by_cases hlj : j < syms.length
        · obtain ⟨b2, off2, rfl, hcell⟩ : ∃ b off, ya = some ⟨b, off, none⟩ ∧ ∀ i, i < syms.length → SymAt wr b (off + i * 6) (syms.getD i Sym.none) := by
            rcases HT2.out wr HV.out with h | h
            · subst h; simp at hlj
            · exact h
          obtain ⟨c0, c1, c2, c3, c4, c5⟩ := hcell j hlj
          have hget : syms.getD j Sym.none = syms[j] := by simp [hlj]
          rw [hget] at c0 c1 c2 c3 c4 c5
          have hji : (j : Int) < (syms.length : Int) := by omega
          have HTK : Hid (ocs k (syms.take (j + 1)) = ocs k (syms.take j) ++ [⟨k, j, syms[j]⟩]) := ⟨ocs_take k syms j hlj⟩
          have HLJ : Hid _ := ⟨HLU.out j⟩
          clear hcell hget
          have HMJ : Hid ((⟨k, j, syms[j]⟩ : Oc) ∈ occ l) := ⟨HMEM.out j syms[j] (by simp [hlj])⟩
          obtain ⟨s, hs⟩ : ∃ s, s = syms[j] := ⟨_, rfl⟩
          rw [← hs] at c0 c1 c2 c3 c4 c5 HTK HMJ
          clear hs
          obtain ⟨Us0, hUs⟩ : ∃ u, u = U0 ++ ocs k (syms.take j) := ⟨_, rfl⟩
          have HTK2 : Hid (U0 ++ ocs k (syms.take (j + 1)) = Us0 ++ [⟨k, j, s⟩]) := ⟨by rw [HTK.out, hUs, List.append_assoc]⟩
          rw [← hUs] at HLJ
          rw [← hUs]
          clear hUs HTK
          obtain ⟨nm, sn, sv, sz, bd, ty⟩ := s
          dsimp only at c0 c1 c2 c3 c4 c5
          have K := Bk.new wr #[.string nm, .string sn, .int .i64 sv, .int .i64 sz, .int .i64 bd, .int .i64 ty] 54
          have HBV : Hid (Below w.heap.size w (wr.alloc (.cells #[.string nm, .string sn, .int .i64 sv, .int .i64 sz, .int .i64 bd, .int .i64 ty] 54))) := ⟨HV.out.alloc HV.out.size _⟩
          obtain ⟨Q, hQ⟩ : ∃ Q, wr.heap.size = Q := ⟨_, rfl⟩
          rw [hQ] at K
          go_upto_region 9 with (fail)
          try rw [hQ]
          have d0 : (wr.alloc (.cells #[.string nm, .string sn, .int .i64 sv, .int .i64 sz, .int .i64 bd, .int .i64 ty] 54)).cell? ⟨Q, 0, none⟩ = some (.string nm) := K.cell 0 rfl
          have d1 : (wr.alloc (.cells #[.string nm, .string sn, .int .i64 sv, .int .i64 sz, .int .i64 bd, .int .i64 ty] 54)).cell? ⟨Q, 1, none⟩ = some (.string sn) := K.cell 1 rfl
          have d4 : (wr.alloc (.cells #[.string nm, .string sn, .int .i64 sv, .int .i64 sz, .int .i64 bd, .int .i64 ty] 54)).cell? ⟨Q, 4, none⟩ = some (.int .i64 bd) := K.cell 4 rfl
          have d5 : (wr.alloc (.cells #[.string nm, .string sn, .int .i64 sv, .int .i64 sz, .int .i64 bd, .int .i64 ty] 54)).cell? ⟨Q, 5, none⟩ = some (.int .i64 ty) := K.cell 5 rfl
          clear K c0 c1 c2 c3 c4 c5 t1 hQ
          generalize (wr.alloc (.cells #[.string nm, .string sn, .int .i64 sv, .int .i64 sz, .int .i64 bd, .int .i64 ty] 54)) = v2 at *
          obtain ⟨z1, hz1⟩ : ∃ z, (nm.toList == n.toList) = z := ⟨_, rfl⟩
          have hn1 : nmB nm n = z1 := by rw [← nm_tl]; exact hz1
          obtain ⟨z3, hz3⟩ : ∃ z, sn.toList.isEmpty = z := ⟨_, rfl⟩
          obtain ⟨z2, hz2⟩ : ∃ z, (bd == 1) = z := ⟨_, rfl⟩
          have HCS : Hid (cS n ⟨k, j, ⟨nm, sn, sv, sz, bd, ty⟩⟩ = ((z1 && z2) && !z3)) := ⟨by unfold cS empB; dsimp only; rw [hn1, hz2, hz3]⟩
          have hcl : nS n Us0 ≤ 2097152 := Nat.le_trans (nS_le n Us0) HLJ.out
          have HYES : Hid (cS n ⟨k, j, ⟨nm, sn, sv, sz, bd, ty⟩⟩ = true → nS n (U0 ++ ocs k (syms.take (j + 1))) = nS n Us0 + 1) := ⟨fun h => by rw [HTK2.out]; exact nS_yes h⟩
          have HNO : Hid (cS n ⟨k, j, ⟨nm, sn, sv, sz, bd, ty⟩⟩ = false → nS n (U0 ++ ocs k (syms.take (j + 1))) = nS n Us0) := ⟨fun h => by rw [HTK2.out]; exact nS_no h⟩
          generalize nS n Us0 = C at *
          cases z1
          · (go_wp2; go_roundw; (case rel => exact ⟨j + 1, hlj, by go_num, (by rw [HNO.out HCS.out]), ⟨HBV.out⟩⟩); (case measure => simp [intOf]; omega))
          · cases z2
            · (go_wp2; go_roundw; (case rel => exact ⟨j + 1, hlj, by go_num, (by rw [HNO.out HCS.out]), ⟨HBV.out⟩⟩); (case measure => simp [intOf]; omega))
            · cases z3
              · (go_wp2; go_roundw; (case rel => exact ⟨j + 1, hlj, by go_num, (by rw [HYES.out HCS.out]; go_num), ⟨HBV.out⟩⟩); (case measure => simp [intOf]; omega))
              · (go_wp2; go_roundw; (case rel => exact ⟨j + 1, hlj, by go_num, (by rw [HNO.out HCS.out]), ⟨HBV.out⟩⟩); (case measure => simp [intOf]; omega))
        · obtain rfl : j = syms.length := by omega
          rw [List.take_of_length_le (Nat.le_refl _), ← HOC.out]
          have HX : Hid _ := ⟨HV.out⟩
          go_wp2
          go_roundw
          case rel => exact ⟨k + 1, hlt, by go_num, (by rw [HU1.out]), ⟨HX.out⟩⟩
          case measure => simp [intOf]; omega
    · obtain rfl : k = l.length := by omega
      rw [List.take_of_length_le (Nat.le_refl _)] at *
      have HX : Hid _ := ⟨HW.out⟩
      go_wp2
      go_ret
      exact ⟨rfl, HX.out⟩
end Go.Proofs.Ytgoaegembijdcaa

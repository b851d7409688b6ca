/- The contract of the document's own Check. -/
import Derived.Test.YtpdcbokcoaienaaDoorSRGood
import Derived.Deep.QuietTactic
import Derived.BigQuiet
namespace Go.Proofs.YtpdcbokcoaienaaDoor
open Go.ChangeShapes Go.WideShapes Go.ChangeAt Go.RowKit Go.Maps
set_option linter.unusedVariables false
set_option linter.unusedSimpArgs false

/-- Which names stand among the first symbols. -/
def FI (l : List Sym) (f : ByteArray → Bool → Bool) : Prop := ∀ t b, f t b = l.any fun x => decide (x.nm = t ∧ (x.b == 0) = b)
theorem FI.start : FI [] (fun _ _ => false) := fun t b => rfl
theorem FI.step {l : List Sym} {f : ByteArray → Bool → Bool} (h : FI l f) (s : Sym) : FI (l ++ [s]) (fput f s.nm (s.b == 0)) := by
  intro t b
  unfold fput
  rw [List.any_append, h t b, Bool.or_comm]
  congr 1
  simp only [List.any_cons, List.any_nil, Bool.or_false, decide_eq_decide]
  constructor
  · rintro ⟨rfl, rfl⟩; exact ⟨rfl, rfl⟩
  · rintro ⟨rfl, rfl⟩; exact ⟨rfl, rfl⟩

theorem unl_no {s : Sym} {r : List Sym} {f : ByteArray → Bool → Bool} (h : (f s.nm (s.b == 0) && !empB s.nm) = true) : unlF (s :: r) f = false := by
  unfold unlF; rw [if_pos h]
theorem unl_go {s : Sym} {r : List Sym} {f : ByteArray → Bool → Bool} (h : (f s.nm (s.b == 0) && !empB s.nm) = false) : unlF (s :: r) f = unlF r (fput f s.nm (s.b == 0)) := by
  conv => lhs; unfold unlF
  rw [if_neg (by rw [h]; simp)]

set_option maxHeartbeats 8000000 in
set_option maxRecDepth 10000 in
theorem rcheck_any (ao a2 : Option Addr) (c c2 : Nat) (l : List Sym) (ss : List ByteArray) (w : World) (hl : l.length ≤ 8796093022207) (hl2 : ss.length ≤ 8796093022208) (hr : Syms w ao l) (hs : Strs w a2 ss) (hsz : SZ l) (hz2 : ∀ s ∈ ss, s.size ≤ 9223372036854775807) :
    Calls Tryd.prog 10 #[.slice ao l.length c, .slice a2 ss.length c2] w fun e w' => e = .returned (.int .i64 (checkE l ss)) ∧ Below w.heap.size w w' := by
  have HR : Hid _ := ⟨hr⟩
  have HS : Hid _ := ⟨hs⟩
  have HZ : Hid _ := ⟨hsz⟩
  have HN : Hid _ := ⟨rnamed_any a2 c2 ss w hl2 hs hz2⟩
  obtain ⟨C, HC⟩ : ∃ C, Hid (checkE l ss = C) := ⟨_, ⟨rfl⟩⟩
  rw [HC.out]
  have hmuch : muchB l ss = ((decide (2000 < l.length) || decide (64 < ss.length)) || ((l.any fun s => longB s.nm) || ss.any longB)) := by
    unfold muchB
    rw [Bool.or_assoc, List.any_map]
    rfl
  have HMU : Hid _ := ⟨hmuch⟩
  obtain ⟨B0, hB0⟩ : ∃ B, (decide (2000 < l.length) || decide (64 < ss.length)) = B := ⟨_, rfl⟩
  rw [hB0] at HMU
  clear hr hs hsz hz2 hmuch
  go_enter Tryd.func10, Tryd.ntmps10
  go_upto_region 1 with (fail)
  go_cut [5] from 10 to 17 (fun s5 wx => s5 = .bool B0 ∧ wx = w)
  case first =>
    by_cases h1 : 2000 < l.length
    · have hb : B0 = true := by rw [← hB0, decide_eq_true h1]; rfl
      (go_wp2; go_meet; exact ⟨by first | (rw [hb]; done) | (rw [hb]; simp; omega), rfl⟩)
    · by_cases h2 : 64 < ss.length
      · have hb : B0 = true := by rw [← hB0, decide_eq_true h2]; simp
        (go_wp2; go_meet; exact ⟨by first | (rw [hb]; done) | (rw [hb]; simp; omega), rfl⟩)
      · have hb : B0 = false := by rw [← hB0, decide_eq_false h1, decide_eq_false h2]; rfl
        (go_wp2; go_meet; exact ⟨by first | (rw [hb]; done) | (rw [hb]; simp; omega), rfl⟩)
  case rest =>
  obtain ⟨hs5, hwc⟩ := hcut
  have hwc' := hwc.symm
  clear hwc
  subst hwc'
  subst hs5
  go_wp2
  go_loop [6, 5] (fun i f => ∃ (k : Nat) (q : Bool), k ≤ l.length ∧ i = .int .i64 k ∧ f = .bool q ∧ Hid (q = (B0 || (l.take k).any fun s => longB s.nm))) (fun i f => l.length - (intOf i).toNat)
  case atStart => exact ⟨0, B0, by omega, rfl, rfl, ⟨by simp⟩⟩
  case round =>
    obtain ⟨k, q, hk, rfl, rfl, HQ⟩ := hrel
    by_cases hlt : k < l.length
    · obtain ⟨b, off, rfl, hcell⟩ : ∃ b off, ao = some ⟨b, off, none⟩ ∧ ∀ i, i < l.length → SymAt w b (off + i * 6) (l.getD i Sym.none) := by
        rcases HR.out with h | h
        · subst h; simp at hlt
        · exact h
      have c0 := (hcell k hlt).nm
      have hget : l.getD k Sym.none = l[k] := by simp [hlt]
      rw [hget] at c0
      have T : (B0 || (l.take (k + 1)).any fun s => longB s.nm) = (q || longB l[k].nm) := by
        rw [List.take_succ_eq_append_getElem hlt, List.any_append, ← Bool.or_assoc, ← HQ.out]; simp
      generalize l[k] = s at *
      have HT : Hid _ := ⟨T⟩
      clear T hcell hget
      cases q
      · by_cases hlg : 255 < s.nm.size
        · have HL : Hid (longB s.nm = true) := ⟨by unfold longB; exact decide_eq_true hlg⟩
          go_wp2
          go_round
          case rel => exact ⟨k + 1, true, hlt, by go_num, by go_num, ⟨by rw [HT.out, HL.out]; rfl⟩⟩
          case measure => simp [intOf]; omega
        · have HL : Hid (longB s.nm = false) := ⟨by unfold longB; exact decide_eq_false hlg⟩
          go_wp2
          go_round
          case rel => exact ⟨k + 1, false, hlt, by go_num, by go_num, ⟨by rw [HT.out, HL.out]; rfl⟩⟩
          case measure => simp [intOf]; omega
      · go_wp2
        go_round
        case rel => exact ⟨k + 1, true, hlt, by go_num, rfl, ⟨by rw [HT.out]; rfl⟩⟩
        case measure => simp [intOf]; omega
    · obtain rfl : k = l.length := by omega
      have hq := HQ.out
      rw [List.take_of_length_le (Nat.le_refl _)] at hq
      have HQ1 : Hid _ := ⟨hq⟩
      clear hq HQ
      go_wp2
      go_loop [7, 5] (fun i f => ∃ (k : Nat) (r : Bool), k ≤ ss.length ∧ i = .int .i64 k ∧ f = .bool r ∧ Hid (r = (q || (ss.take k).any longB))) (fun i f => ss.length - (intOf i).toNat)
      case atStart => exact ⟨0, q, by omega, rfl, rfl, ⟨by simp⟩⟩
      case round =>
        obtain ⟨k, r, hk, rfl, rfl, HQ⟩ := hrel
        by_cases hlt : k < ss.length
        · obtain ⟨b, off, rfl, hcell⟩ : ∃ b off, a2 = some ⟨b, off, none⟩ ∧ ∀ i, i < ss.length → w.cell? ⟨b, off + i, none⟩ = some (.string (ss.getD i ByteArray.empty)) := by
            rcases HS.out with h | h
            · subst h; simp at hlt
            · exact h
          have c0 := hcell k hlt
          have hget : ss.getD k ByteArray.empty = ss[k] := by simp [hlt]
          rw [hget] at c0
          have T : (q || (ss.take (k + 1)).any longB) = (r || longB ss[k]) := by
            rw [List.take_succ_eq_append_getElem hlt, List.any_append, ← Bool.or_assoc, ← HQ.out]; simp
          generalize ss[k] = s at *
          have HT : Hid _ := ⟨T⟩
          clear T hcell hget
          cases r
          · by_cases hlg : 255 < s.size
            · have HL : Hid (longB s = true) := ⟨by unfold longB; exact decide_eq_true hlg⟩
              go_wp2
              go_round
              case rel => exact ⟨k + 1, true, hlt, by go_num, by go_num, ⟨by rw [HT.out, HL.out]; rfl⟩⟩
              case measure => simp [intOf]; omega
            · have HL : Hid (longB s = false) := ⟨by unfold longB; exact decide_eq_false hlg⟩
              go_wp2
              go_round
              case rel => exact ⟨k + 1, false, hlt, by go_num, by go_num, ⟨by rw [HT.out, HL.out]; rfl⟩⟩
              case measure => simp [intOf]; omega
          · go_wp2
            go_round
            case rel => exact ⟨k + 1, true, hlt, by go_num, rfl, ⟨by rw [HT.out]; rfl⟩⟩
            case measure => simp [intOf]; omega
        · obtain rfl : k = ss.length := by omega
          have hq := HQ.out
          rw [List.take_of_length_le (Nat.le_refl _)] at hq
          have hmu : muchB l ss = r := by rw [HMU.out, hq, HQ1.out, Bool.or_assoc]
          have HMM : Hid _ := ⟨hmu⟩
          clear hq HQ hmu
          cases r
          · cases hnm : numM ss with
            | none =>
              have hn := HN.out
              rw [hnm] at hn
              have HNN : Hid _ := ⟨hn⟩
              have HCC : Hid (C = 80) := ⟨by rw [← HC.out]; unfold checkE; rw [HMM.out, hnm]; rfl⟩
              clear hn hnm
              go_wp2_with (go_at_call 27; refine HNN.out.mono ?_; rintro e w' ⟨rfl, hw'⟩; subst w')
              go_ret
              exact ⟨ret_int HCC.out.symm, Below.refl _ _⟩
            | some m =>
              have hn := HN.out
              rw [hnm] at hn
              have HNN : Hid _ := ⟨hn⟩
              have HNI : Hid _ := ⟨numM_NI hnm⟩
              have HCC : Hid (C = if mayB l m then 0 else 80) := ⟨by rw [← HC.out]; unfold checkE; rw [HMM.out, hnm]; rfl⟩
              have HBAD : Hid (∀ i (hi : i < l.length), ((m l[i].sc).isSome && rightB l[i]) = false → C = 80) := ⟨fun i hi h => by
                rw [HCC.out]
                have : l.all (fun s => (m s.sc).isSome && rightB s) = false := by
                  rw [List.all_eq_false]; exact ⟨l[i], List.getElem_mem hi, by rw [h]; simp⟩
                unfold mayB
                rw [this]; rfl⟩
              have HUNL : Hid (unlB l = false → C = 80) := ⟨fun h => by
                rw [HCC.out]; unfold mayB; rw [h, Bool.and_false]; rfl⟩
              have HOK : Hid (l.all (fun s => (m s.sc).isSome && rightB s) = true → unlB l = true → C = 0) := ⟨fun h1 h2 => by
                rw [HCC.out]; unfold mayB; rw [h1, h2]; rfl⟩
              have HGD : Hid (∀ i (hi : i < l.length) w', Below w.heap.size w w' → Calls Tryd.prog 28 #[l[i].val, .slice a2 ss.length c2] w' fun e w'' => e = .returned (.bool ((m l[i].sc).isSome && rightB l[i])) ∧ Below w'.heap.size w' w'') := ⟨fun i hi w' h => rgood_any l[i] a2 c2 ss m w' hl2 (HS.out.below h (Nat.le_refl _)) HNI.out (HZ.out _ (List.getElem_mem hi)).1⟩
              clear hn hnm HMM HN HMU HC HQ1 hB0 HNI HCC
              go_wp2_with (go_at_call 27; refine HNN.out.mono ?_; rintro e w' ⟨rfl, hw'⟩; subst w')
              go_loopw [8] (fun i wr => ∃ (k : Nat) (f : ByteArray → Bool → Bool), k ≤ l.length ∧ i = .int .i64 k ∧ Hid ((l.take k).all (fun s => (m s.sc).isSome && rightB s) = true ∧ FI (l.take k) f ∧ unlB l = unlF (l.drop k) f) ∧ Hid (Below w.heap.size w wr)) (fun i _ => l.length - (intOf i).toNat)
              case atStart => exact ⟨0, fun _ _ => false, by omega, rfl, ⟨by simp, FI.start, by simp [unlB]⟩, ⟨Below.refl _ _⟩⟩
              case round =>
                obtain ⟨k, f, hk, rfl, HI, HB⟩ := hrel
                by_cases hlt : k < l.length
                · obtain ⟨b, off, rfl, hcell0⟩ : ∃ b off, ao = some ⟨b, off, none⟩ ∧ ∀ i, i < l.length → SymAt w b (off + i * 6) (l.getD i Sym.none) := by
                    rcases HR.out with h | h
                    · subst h; simp at hlt
                    · exact h
                  have HCL : Hid (∀ w', Below w.heap.size w w' → ∀ i (hi : i < l.length), SymAt w' b (off + i * 6) l[i]) := ⟨fun w' h i hi => by
                    have := (hcell0 i hi).below h (Nat.le_refl _)
                    have hget : l.getD i Sym.none = l[i] := by simp [hi]
                    rwa [hget] at this⟩
                  obtain ⟨c0, c1, c2', c3, c4, c5⟩ := HCL.out wr HB.out k hlt
                  have G := HGD.out k hlt wr HB.out
                  have hbad := HBAD.out k hlt
                  have hdrop : l.drop k = l[k] :: l.drop (k + 1) := List.drop_eq_getElem_cons hlt
                  have htake : l.take (k + 1) = l.take k ++ [l[k]] := List.take_succ_eq_append_getElem hlt
                  have HCK : Hid (∀ w', Below w.heap.size w w' → SymAt w' b (off + k * 6) l[k]) := ⟨fun w' h => HCL.out w' h k hlt⟩
                  have HTT : Hid (∀ j, j < k → ∀ p : Sym → Bool, (l.take (j + 1)).any p = ((l.take j).any p || p (l.getD j Sym.none))) := ⟨fun j hj p => by
                    have hjl : j < l.length := by omega
                    have hget : l.getD j Sym.none = l[j] := by simp [hjl]
                    rw [List.take_succ_eq_append_getElem hjl, List.any_append, hget]; simp⟩
                  have HCJ : Hid (∀ w', Below w.heap.size w w' → ∀ j, j < k → SymAt w' b (off + j * 6) (l.getD j Sym.none)) := ⟨fun w' h j hj => by
                    have hjl : j < l.length := by omega
                    have hget : l.getD j Sym.none = l[j] := by simp [hjl]
                    rw [hget]; exact HCL.out w' h j hjl⟩
                  generalize l[k] = s at *
                  obtain ⟨nm, sc, v, z, bd, ty⟩ := s
                  dsimp only [Sym.val] at *
                  cases hg : ((m sc).isSome && rightB ⟨nm, sc, v, z, bd, ty⟩)
                  · rw [hg] at G
                    have HG : Hid _ := ⟨G⟩
                    have HC80 : Hid (C = 80) := ⟨hbad hg⟩
                    clear G hbad hg hdrop htake hcell0
                    go_wp2_with (go_at_call 28; (with_reducible refine HG.out.mono ?_); rintro e w3 ⟨rfl, hb3⟩)
                    go_ret
                    exact ⟨ret_int HC80.out.symm, HB.out.trans (hb3.mono HB.out.size)⟩
                  · rw [hg] at G
                    have HG : Hid _ := ⟨G⟩
                    have HST : Hid ((l.take (k + 1)).all (fun s => (m s.sc).isSome && rightB s) = true) := ⟨by rw [htake, List.all_append, HI.out.1]; simpa using hg⟩
                    have HFI : Hid (FI (l.take (k + 1)) (fput f nm (bd == 0))) := ⟨by rw [htake]; exact HI.out.2.1.step ⟨nm, sc, v, z, bd, ty⟩⟩
                    have HUN : Hid ((f nm (bd == 0) && !empB nm) = true → C = 80) := ⟨fun h => HUNL.out (by rw [HI.out.2.2, hdrop]; exact unl_no (s := ⟨nm, sc, v, z, bd, ty⟩) h)⟩
                    have HUG : Hid ((f nm (bd == 0) && !empB nm) = false → unlB l = unlF (l.drop (k + 1)) (fput f nm (bd == 0))) := ⟨fun h => by rw [HI.out.2.2, hdrop]; exact unl_go (s := ⟨nm, sc, v, z, bd, ty⟩) h⟩
                    have HFA : Hid (f nm (bd == 0) = (l.take k).any fun x => decide (x.nm = nm ∧ (x.b == 0) = (bd == 0))) := ⟨HI.out.2.1 nm (bd == 0)⟩
                    clear G hbad hg hdrop htake hcell0
                    go_wp2_with (go_at_call 28; (with_reducible refine HG.out.mono ?_); rintro e w3 ⟨rfl, hb3⟩)
                    have B3 := HB.out.trans (hb3.mono HB.out.size)
                    have HB3 : Hid _ := ⟨B3⟩
                    clear B3 hb3 c0 c1 c2' c3 c4 c5 HB
                    obtain ⟨em, hem⟩ : ∃ x, nm.toList.isEmpty = x := ⟨_, rfl⟩
                    obtain ⟨lo, hlo⟩ : ∃ x, (bd == 0) = x := ⟨_, rfl⟩
                    unfold empB at HUN HUG
                    rw [hem, hlo] at HUN HUG
                    rw [hlo] at HFA HFI
                    go_loopw [9] (fun j wq => ∃ n : Nat, n ≤ k ∧ j = .int .i64 n ∧ Hid ((((l.take n).any fun x => decide (x.nm = nm ∧ (x.b == 0) = lo)) && !em) = false) ∧ Hid (Below w.heap.size w wq)) (fun j _ => k - (intOf j).toNat)
                    case atStart => exact ⟨0, by omega, rfl, ⟨by simp⟩, HB3⟩
                    case round =>
                      obtain ⟨n, hn, rfl, HX, HBQ⟩ := hrel
                      by_cases hnk : n < k
                      · obtain ⟨c0, c1, c2', c3, c4, c5⟩ := HCK.out _ HBQ.out
                        obtain ⟨x0, x1, x2, x3, x4, x5⟩ := HCJ.out _ HBQ.out n hnk
                        have ht := HTT.out n hnk (fun x => decide (x.nm = nm ∧ (x.b == 0) = lo))
                        have hmem : decide ((l.getD n Sym.none).nm = nm ∧ ((l.getD n Sym.none).b == 0) = lo) = true → (l.take k).any (fun x => decide (x.nm = nm ∧ (x.b == 0) = lo)) = true := fun h => by
                          rw [List.any_eq_true]
                          have hnl : n < l.length := by omega
                          have hget : l.getD n Sym.none = l[n] := by simp [hnl]
                          rw [hget] at h
                          exact ⟨l[n], List.mem_take_iff_getElem.2 ⟨n, by omega, rfl⟩, h⟩
                        generalize l.getD n Sym.none = u at *
                        obtain ⟨unm, usc, uv, uz, ub, ut⟩ := u
                        dsimp only at *
                        have hbe := tl_beq nm unm
                        obtain ⟨ul, hul⟩ : ∃ x, (ub == 0) = x := ⟨_, rfl⟩
                        rw [hul] at ht hmem
                        have HTN : Hid _ := ⟨ht⟩
                        have HME : Hid _ := ⟨hmem⟩
                        have i1 : (0 : Int) ≤ (n : Int) := by omega
                        have i2 : (n : Int) < (l.length : Int) := by omega
                        have i3 : (0 : Int) ≤ (k : Int) := by omega
                        have i4 : (k : Int) < (l.length : Int) := by omega
                        have heq : decide (unm = nm ∧ ul = lo) = (decide (nm = unm) && (lo == ul)) := by
                          by_cases e1 : nm = unm
                          · subst e1; cases ul <;> cases lo <;> simp
                          · have e2 : ¬ unm = nm := fun h => e1 h.symm
                            simp [e1, e2]
                        rw [heq] at HTN HME
                        clear ht hmem heq
                        generalize decide (nm = unm) = q at *
                        cases em
                        · cases q
                          · go_wp2
                            go_quiet (fail)
                            go_wp2
                            go_roundw
                            case rel => exact ⟨n + 1, hnk, by go_num, ⟨by rw [HTN.out]; simpa using HX.out⟩, ⟨below_drewN HBQ.out _⟩⟩
                            case measure => simp [intOf]; omega
                          · cases lo <;> cases ul
                            · have HC80 : Hid (C = 80) := ⟨HUN.out (by rw [HFA.out, HME.out rfl]; rfl)⟩
                              go_wp2
                              go_quiet (fail)
                              go_wp2
                              go_ret
                              exact ⟨ret_int HC80.out.symm, below_drewN HBQ.out _⟩
                            · go_wp2
                              go_quiet (fail)
                              go_wp2
                              go_roundw
                              case rel => exact ⟨n + 1, hnk, by go_num, ⟨by rw [HTN.out]; simpa using HX.out⟩, ⟨below_drewN HBQ.out _⟩⟩
                              case measure => simp [intOf]; omega
                            · go_wp2
                              go_quiet (fail)
                              go_wp2
                              go_roundw
                              case rel => exact ⟨n + 1, hnk, by go_num, ⟨by rw [HTN.out]; simpa using HX.out⟩, ⟨below_drewN HBQ.out _⟩⟩
                              case measure => simp [intOf]; omega
                            · have HC80 : Hid (C = 80) := ⟨HUN.out (by rw [HFA.out, HME.out rfl]; rfl)⟩
                              go_wp2
                              go_quiet (fail)
                              go_wp2
                              go_ret
                              exact ⟨ret_int HC80.out.symm, below_drewN HBQ.out _⟩
                        · go_wp2
                          go_quiet (fail)
                          go_wp2
                          go_roundw
                          case rel => exact ⟨n + 1, hnk, by go_num, ⟨by simp⟩, ⟨below_drewN HBQ.out _⟩⟩
                          case measure => simp [intOf]; omega
                      · obtain rfl : n = k := by omega
                        have hgo := HUG.out (by rw [HFA.out]; exact HX.out)
                        have HGO : Hid _ := ⟨hgo⟩
                        clear hgo
                        go_wp2
                        go_roundw
                        case rel => exact ⟨n + 1, _, hlt, by go_num, ⟨HST.out, HFI.out, HGO.out⟩, HBQ⟩
                        case measure => simp [intOf]; omega
                · obtain rfl : k = l.length := by omega
                  have hall := HI.out.1
                  have hun := HI.out.2.2
                  rw [List.take_of_length_le (Nat.le_refl _)] at hall
                  rw [List.drop_of_length_le (Nat.le_refl _)] at hun
                  have HC0 : Hid (C = 0) := ⟨HOK.out hall hun⟩
                  clear hall hun
                  go_wp2
                  go_ret
                  exact ⟨ret_int HC0.out.symm, HB.out⟩
          · have HCC : Hid (C = 6) := ⟨by rw [← HC.out]; unfold checkE; rw [HMM.out]; rfl⟩
            go_wp2
            go_ret
            exact ⟨ret_int HCC.out.symm, Below.refl _ _⟩
end Go.Proofs.YtpdcbokcoaienaaDoor

/- The walk of LexerClean. The contract of the law's same. Rows of tokens that are written over. The walk of LexerCuts. The walk of LexerLines. The contract of the law's tokens. The walk of LexerBack. -/
import Derived.Test.YthdkbjifjmhgoaaDoorLxLaw
import Derived.Test.YthdkbjifjmhgoaaDoorQxTurn
import Derived.Deep.RegionHeldLaw
import Derived.Deep.AppendLies
namespace Go.Proofs.YthdkbjifjmhgoaaDoor
open Go.ChangeShapes Go.WideShapes Go.ChangeAt Go.RowKit
set_option linter.unusedVariables false
set_option linter.unusedSimpArgs false

theorem drewN_cell (w : World) (p : Addr) : ∀ n, (w.drewN n).cell? p = w.cell? p
  | 0 => rfl
  | n + 1 => drewN_cell w p n

theorem cut_len : ∀ (L : List (List UInt8)) (k : Nat) (acc ts : List TL), (∀ s ∈ L, s.length ≤ 65536) → cutF L k acc = .ok ts → ts.length ≤ acc.length + L.length * 65537
  | [], k, acc, ts, _, h => by cases h; simp
  | s :: L, k, acc, ts, hs, h => by
    simp only [cutF] at h
    cases hl : lineM s with
    | none => rw [hl] at h; cases h
    | some l =>
      rw [hl] at h
      have h1 := line_len hl
      have h2 := hs s (by simp)
      have h3 := cut_len L (k + 1) _ ts (fun x hx => hs x (by simp [hx])) h
      rw [List.length_append, List.length_map] at h3
      simp only [List.length_cons]
      omega
theorem all_len {l : List UInt8} {ts : List TL} (h : allM l = .ok ts) : ts.length ≤ 9223372036854775806 := by
  unfold allM at h
  split at h
  · cases h
  · rename_i h1
    split at h
    · cases h
    · rename_i h2
      cases hc : cutF (linesM l) 1 [] with
      | error k => rw [hc] at h; cases h
      | ok x =>
        rw [hc] at h
        cases h
        have := cut_len _ _ _ _ (fun s hs => by
          have := (lines_all l []).2 s hs
          simp at this; omega) hc
        simp at this
        omega

theorem lexerClean_bad (HA : PAll) (s : ByteArray) (w : World) (hE : Er w) (m x : Int) (h : allM (lo s) = .error (m, x)) :
    Calls Tryd.prog 8 #[.string s] w fun e w' => e = .returned (.bool true) ∧ Below w.heap.size w w' := by
  have HC := HA s w hE
  rw [h] at HC
  have HL : Hid (∀ W, Below w.heap.size w W → Calls Tryd.prog 13 #[] W fun e w' => e = .returned (.bool true) ∧ Below W.heap.size W w') := ⟨fun W hW => live_any HA W (hE.below hW hE.sz)⟩
  have HC1 : Hid _ := ⟨HC⟩
  clear HC HA
  rcases all_err h with ⟨rfl, rfl⟩ | ⟨hm, rfl⟩
  all_goals
    clear h
    go_enter Tryd.func8, Tryd.ntmps8
    go_wp2_with (first
      | (go_at_call 9; (with_reducible refine HC1.out.mono ?_); rintro e w1 ⟨rfl, hb1⟩)
      | (go_at_call 12; refine (num_any _ _).mono ?_; rintro e w' ⟨rfl, hw'⟩; subst w')
      | (go_at_call 13; (with_reducible refine (HL.out _ hb1).mono ?_); rintro e w3 ⟨rfl, hb3⟩))
    go_ret
    exact ⟨rfl, hb1.trans (hb3.mono hb1.size)⟩

set_option maxHeartbeats 8000000 in
set_option maxRecDepth 10000 in
theorem lexerClean_good (HA : PAll) (s : ByteArray) (w : World) (hE : Er w) (ts : List TL) (hlen : ts.length ≤ 9223372036854775806) (h : allM (lo s) = .ok ts) :
    Calls Tryd.prog 8 #[.string s] w fun e w' => e = .returned (.bool true) ∧ Below w.heap.size w w' := by
  have HC := HA s w hE
  rw [h] at HC
  have HL : Hid (∀ W, Below w.heap.size w W → Calls Tryd.prog 13 #[] W fun e w' => e = .returned (.bool true) ∧ Below W.heap.size W w') := ⟨fun W hW => live_any HA W (hE.below hW hE.sz)⟩
  have HC1 : Hid _ := ⟨HC⟩
  obtain ⟨K, hcl⟩ := all_clean h
  have HCL : Hid _ := ⟨hcl⟩
  clear HC HA h hcl
  go_enter Tryd.func8, Tryd.ntmps8
  go_wp2_with (first
    | (go_at_call 9; (with_reducible refine HC1.out.mono ?_); rintro e w1 ⟨v1, rfl, o1, hb1⟩; obtain ⟨ao, cp, hv, _, _, ht, _⟩ := OwnTP.any o1; subst hv; have HT : Hid _ := ⟨ht⟩; have Hb1 : Hid _ := ⟨hb1⟩; clear o1 ht hb1)
    | (go_at_call 12; refine (num_any _ _).mono ?_; rintro e w' ⟨rfl, hw'⟩; subst w'))
  go_loopw [6] (fun i wr => ∃ k : Nat, k ≤ ts.length ∧ i = .int .i64 k ∧ Hid (Below w1.heap.size w1 wr)) (fun i _ => ts.length - (intOf i).toNat)
  case atStart => exact ⟨0, by omega, rfl, ⟨Below.refl _ _⟩⟩
  case round =>
    obtain ⟨k, hk, rfl, HB⟩ := hrel
    by_cases hlt : k < ts.length
    · obtain ⟨b, off, rfl, hat⟩ : ∃ b off, ao = some ⟨b, off, none⟩ ∧ ∀ i, i < ts.length → TokAt wr b (off + i * 4) (ts.getD i TL.none) := by
        rcases HT.out.below HB.out (Nat.le_refl _) with h | h
        · rw [h] at hlt; simp at hlt
        · exact h
      obtain ⟨c0, c1, c2, c3⟩ := hat k hlt
      have hlti : (k : Int) < (ts.length : Int) := by omega
      have hk0 : (0 : Int) ≤ (k : Int) := by omega
      have hok := (HCL.out.ok (ts.getD k TL.none) (by
        have : ts.getD k TL.none = ts[k] := by simp [hlt]
        rw [this]; exact List.getElem_mem hlt)).1
      obtain ⟨k1, k6, hpl⟩ := hok
      have HPL : Hid _ := ⟨hpl⟩
      clear hpl
      by_cases hz : k = 0
      · subst hz
        clear hat
        simp only [Nat.zero_mul, Nat.add_zero] at c0 c1 c2 c3
        generalize ts.getD 0 TL.none = p at *
        obtain ⟨⟨pk, pn, pt⟩, pl⟩ := p
        dsimp only at c0 c1 c2 c3 k1 k6 HPL
        have t1 : ¬ pk < 1 := by omega
        have t2 : ¬ 6 < pk := by omega
        have t3 : decide (pk < 1) = false := decide_eq_false t1
        have t4 : decide (6 < pk) = false := decide_eq_false t2
        go_wp2
        go_quiet (fail)
        have e0 : ((wr.alloc (.cells #[.int .i64 pk, .int .i64 pl, .int .i64 pn, .string (St pt)] 32)).drewN nq).cell? ⟨wr.heap.size, 0, none⟩ = some (.int .i64 pk) := by rw [drewN_cell]; simp
        have e3 : ((wr.alloc (.cells #[.int .i64 pk, .int .i64 pl, .int .i64 pn, .string (St pt)] 32)).drewN nq).cell? ⟨wr.heap.size, 3, none⟩ = some (.string (St pt)) := by rw [drewN_cell]; simp
        have HBV : Hid (Below w1.heap.size w1 ((wr.alloc (.cells #[.int .i64 pk, .int .i64 pl, .int .i64 pn, .string (St pt)] 32)).drewN nq)) := ⟨below_drewN (HB.out.alloc HB.out.size _) _⟩
        generalize (wr.alloc (.cells #[.int .i64 pk, .int .i64 pl, .int .i64 pn, .string (St pt)] 32)).drewN nq = V at *
        generalize wr.heap.size = B at *
        have hsz : (St pt).size = pt.length := St_size _
        obtain ⟨tx, htx⟩ : ∃ tx, St pt = tx := ⟨_, rfl⟩
        rw [htx] at e3 hsz
        have HPB : Hid (¬ pk = 3 → ∀ j, ∀ h : j < tx.size, 32 < (tx[j].toNat : Int) ∧ (tx[j].toNat : Int) ≤ 126) := ⟨fun h3 j hj => by
          subst htx
          have hj' : j < pt.length := by rw [St_size] at hj; exact hj
          exact (HPL.out h3).2 pt[j] (List.getElem_mem hj')⟩
        have HSB : Hid (¬ pk = 3 → tx.size ≤ 65536) := ⟨fun h3 => by rw [hsz]; exact (HPL.out h3).1⟩
        clear htx hsz
        go_wp2
        go_loop [8] (fun i => ∃ j : Nat, i = .int .i64 j ∧ j ≤ tx.size) (fun i => tx.size - (intOf i).toNat)
        case atStart => exact ⟨0, rfl, by omega⟩
        case round =>
          obtain ⟨j, rfl, hj⟩ := hrel
          cases h3 : (pk != 3)
          · by_cases hjl : j < tx.size
            · have hjli : (j : Int) < (tx.size : Int) := by omega
              go_wp2
              go_roundw
              case rel => exact ⟨1, hlt, by go_num, HBV⟩
              case measure => simp [intOf]; omega
            · have hjli : ¬ (j : Int) < (tx.size : Int) := by omega
              go_wp2
              go_roundw
              case rel => exact ⟨1, hlt, by go_num, HBV⟩
              case measure => simp [intOf]; omega
          · by_cases hjl : j < tx.size
            · have hjli : (j : Int) < (tx.size : Int) := by omega
              have HJL : Hid (j < tx.size) := ⟨hjl⟩
              have hsb := HSB.out (by simpa using h3)
              have hjb : j < 65536 := by omega
              clear hsb
              obtain ⟨g1, g2⟩ := HPB.out (by simpa using h3) j hjl
              have g1n : ¬ (tx[j].toNat : Int) ≤ 32 := by omega
              have g2n : ¬ 126 < (tx[j].toNat : Int) := by omega
              go_wp2
              go_round
              case rel => exact ⟨j + 1, by go_num, HJL.out⟩
              case measure => have := HJL.out; simp [intOf]; omega
            · have hjli : ¬ (j : Int) < (tx.size : Int) := by omega
              go_wp2
              go_roundw
              case rel => exact ⟨1, hlt, by go_num, HBV⟩
              case measure => simp [intOf]; omega
      · obtain ⟨m, rfl⟩ : ∃ m, k = m + 1 := ⟨k - 1, by omega⟩
        obtain ⟨d0, d1, d2, d3⟩ := hat m (by omega)
        have hnx := chain_at ts m HCL.out.chain hlt
        obtain ⟨hn1, hn2⟩ := hnx
        have hkp : (0 : Int) < ((m + 1 : Nat) : Int) := by omega
        have hi0 : (0 : Int) ≤ (m : Int) := by omega
        have hi2 : (m : Int) < (ts.length : Int) := by omega
        have hsub : (m : Int) + 1 - 1 = (m : Int) := by omega
        have hsub2 : ((m + 1 : Nat) : Int) - 1 = (m : Int) := by omega
        have hsw : IntKind.i64.wrap ((m : Int) + 1 - 1) = (m : Int) := by rw [IntKind.wrap_i64]; omega
        have hsw2 : IntKind.i64.wrap (((m + 1 : Nat) : Int) - 1) = (m : Int) := by rw [IntKind.wrap_i64]; omega
        have hsw3 : IntKind.i64.wrap (m : Int) = (m : Int) := by rw [IntKind.wrap_i64]; omega
        clear hat d2 d3 hz
        generalize ts.getD (m + 1) TL.none = p at *
        generalize ts.getD m TL.none = q at *
        obtain ⟨⟨pk, pn, pt⟩, pl⟩ := p
        obtain ⟨⟨qk, qn, qt⟩, ql⟩ := q
        dsimp only at c0 c1 c2 c3 k1 k6 HPL d0 d1 hn1 hn2
        have t1 : ¬ pk < 1 := by omega
        have t2 : ¬ 6 < pk := by omega
        have t3 : decide (pk < 1) = false := decide_eq_false t1
        have t4 : decide (6 < pk) = false := decide_eq_false t2
        have hbl : b < wr.heap.size := World.block_lt_of_cell? wr _ d1
        have hbn : ¬ b = wr.heap.size := by omega
        have D0 : (wr.alloc (.cells #[.int .i64 pk, .int .i64 pl, .int .i64 pn, .string (St pt)] 32)).cell? ⟨b, off + m * 4, none⟩ = some (.int .i64 qk) := ((Below.refl wr.heap.size wr).alloc (Nat.le_refl _) (.cells #[.int .i64 pk, .int .i64 pl, .int .i64 pn, .string (St pt)] 32) |>.cell (p := ⟨b, off + m * 4, none⟩) hbl).trans d0
        have D1 : (wr.alloc (.cells #[.int .i64 pk, .int .i64 pl, .int .i64 pn, .string (St pt)] 32)).cell? ⟨b, off + m * 4 + 1, none⟩ = some (.int .i64 ql) := ((Below.refl wr.heap.size wr).alloc (Nat.le_refl _) (.cells #[.int .i64 pk, .int .i64 pl, .int .i64 pn, .string (St pt)] 32) |>.cell (p := ⟨b, off + m * 4 + 1, none⟩) hbl).trans d1
        have hl0 : ¬ pl < ql := by omega
        have t5 : decide (pl < ql) = false := decide_eq_false hl0
        have t6 : decide ((0 : Int) < ((m + 1 : Nat) : Int)) = true := decide_eq_true hkp
        have hkn : 0 < m + 1 := by omega
        have t7 : decide (0 < m + 1) = true := decide_eq_true hkn
        have t8 : (0 : Int) < (m : Int) + 1 := by omega
        have t9 : decide ((0 : Int) < (m : Int) + 1) = true := decide_eq_true t8
        cases hq : (pl != ql)
        · skip
          go_wp2
          go_quiet (fail)
          have e0 : ((wr.alloc (.cells #[.int .i64 pk, .int .i64 pl, .int .i64 pn, .string (St pt)] 32)).drewN nq).cell? ⟨wr.heap.size, 0, none⟩ = some (.int .i64 pk) := by rw [drewN_cell]; simp
          have e3 : ((wr.alloc (.cells #[.int .i64 pk, .int .i64 pl, .int .i64 pn, .string (St pt)] 32)).drewN nq).cell? ⟨wr.heap.size, 3, none⟩ = some (.string (St pt)) := by rw [drewN_cell]; simp
          have HBV : Hid (Below w1.heap.size w1 ((wr.alloc (.cells #[.int .i64 pk, .int .i64 pl, .int .i64 pn, .string (St pt)] 32)).drewN nq)) := ⟨below_drewN (HB.out.alloc HB.out.size _) _⟩
          generalize (wr.alloc (.cells #[.int .i64 pk, .int .i64 pl, .int .i64 pn, .string (St pt)] 32)).drewN nq = V at *
          generalize wr.heap.size = B at *
          have hsz : (St pt).size = pt.length := St_size _
          obtain ⟨tx, htx⟩ : ∃ tx, St pt = tx := ⟨_, rfl⟩
          rw [htx] at e3 hsz
          have HPB : Hid (¬ pk = 3 → ∀ j, ∀ h : j < tx.size, 32 < (tx[j].toNat : Int) ∧ (tx[j].toNat : Int) ≤ 126) := ⟨fun h3 j hj => by
            subst htx
            have hj' : j < pt.length := by rw [St_size] at hj; exact hj
            exact (HPL.out h3).2 pt[j] (List.getElem_mem hj')⟩
          have HSB : Hid (¬ pk = 3 → tx.size ≤ 65536) := ⟨fun h3 => by rw [hsz]; exact (HPL.out h3).1⟩
          clear htx hsz
          go_wp2
          go_loop [8] (fun i => ∃ j : Nat, i = .int .i64 j ∧ j ≤ tx.size) (fun i => tx.size - (intOf i).toNat)
          case atStart => exact ⟨0, rfl, by omega⟩
          case round =>
            obtain ⟨j, rfl, hj⟩ := hrel
            cases h3 : (pk != 3)
            · by_cases hjl : j < tx.size
              · have hjli : (j : Int) < (tx.size : Int) := by omega
                go_wp2
                go_roundw
                case rel => exact ⟨m + 1 + 1, hlt, by go_num, HBV⟩
                case measure => simp [intOf]; omega
              · have hjli : ¬ (j : Int) < (tx.size : Int) := by omega
                go_wp2
                go_roundw
                case rel => exact ⟨m + 1 + 1, hlt, by go_num, HBV⟩
                case measure => simp [intOf]; omega
            · by_cases hjl : j < tx.size
              · have hjli : (j : Int) < (tx.size : Int) := by omega
                have HJL : Hid (j < tx.size) := ⟨hjl⟩
                have hsb := HSB.out (by simpa using h3)
                have hjb : j < 65536 := by omega
                clear hsb
                obtain ⟨g1, g2⟩ := HPB.out (by simpa using h3) j hjl
                have g1n : ¬ (tx[j].toNat : Int) ≤ 32 := by omega
                have g2n : ¬ 126 < (tx[j].toNat : Int) := by omega
                go_wp2
                go_round
                case rel => exact ⟨j + 1, by go_num, HJL.out⟩
                case measure => have := HJL.out; simp [intOf]; omega
              · have hjli : ¬ (j : Int) < (tx.size : Int) := by omega
                go_wp2
                go_roundw
                case rel => exact ⟨m + 1 + 1, hlt, by go_num, HBV⟩
                case measure => simp [intOf]; omega
        · have hq6 : (qk != 6) = false := by
            have := hn2 (by simpa using hq)
            rw [this]; rfl
          go_wp2
          go_quiet (fail)
          have e0 : ((wr.alloc (.cells #[.int .i64 pk, .int .i64 pl, .int .i64 pn, .string (St pt)] 32)).drewN nq).cell? ⟨wr.heap.size, 0, none⟩ = some (.int .i64 pk) := by rw [drewN_cell]; simp
          have e3 : ((wr.alloc (.cells #[.int .i64 pk, .int .i64 pl, .int .i64 pn, .string (St pt)] 32)).drewN nq).cell? ⟨wr.heap.size, 3, none⟩ = some (.string (St pt)) := by rw [drewN_cell]; simp
          have HBV : Hid (Below w1.heap.size w1 ((wr.alloc (.cells #[.int .i64 pk, .int .i64 pl, .int .i64 pn, .string (St pt)] 32)).drewN nq)) := ⟨below_drewN (HB.out.alloc HB.out.size _) _⟩
          generalize (wr.alloc (.cells #[.int .i64 pk, .int .i64 pl, .int .i64 pn, .string (St pt)] 32)).drewN nq = V at *
          generalize wr.heap.size = B at *
          have hsz : (St pt).size = pt.length := St_size _
          obtain ⟨tx, htx⟩ : ∃ tx, St pt = tx := ⟨_, rfl⟩
          rw [htx] at e3 hsz
          have HPB : Hid (¬ pk = 3 → ∀ j, ∀ h : j < tx.size, 32 < (tx[j].toNat : Int) ∧ (tx[j].toNat : Int) ≤ 126) := ⟨fun h3 j hj => by
            subst htx
            have hj' : j < pt.length := by rw [St_size] at hj; exact hj
            exact (HPL.out h3).2 pt[j] (List.getElem_mem hj')⟩
          have HSB : Hid (¬ pk = 3 → tx.size ≤ 65536) := ⟨fun h3 => by rw [hsz]; exact (HPL.out h3).1⟩
          clear htx hsz
          go_wp2
          go_loop [8] (fun i => ∃ j : Nat, i = .int .i64 j ∧ j ≤ tx.size) (fun i => tx.size - (intOf i).toNat)
          case atStart => exact ⟨0, rfl, by omega⟩
          case round =>
            obtain ⟨j, rfl, hj⟩ := hrel
            cases h3 : (pk != 3)
            · by_cases hjl : j < tx.size
              · have hjli : (j : Int) < (tx.size : Int) := by omega
                go_wp2
                go_roundw
                case rel => exact ⟨m + 1 + 1, hlt, by go_num, HBV⟩
                case measure => simp [intOf]; omega
              · have hjli : ¬ (j : Int) < (tx.size : Int) := by omega
                go_wp2
                go_roundw
                case rel => exact ⟨m + 1 + 1, hlt, by go_num, HBV⟩
                case measure => simp [intOf]; omega
            · by_cases hjl : j < tx.size
              · have hjli : (j : Int) < (tx.size : Int) := by omega
                have HJL : Hid (j < tx.size) := ⟨hjl⟩
                have hsb := HSB.out (by simpa using h3)
                have hjb : j < 65536 := by omega
                clear hsb
                obtain ⟨g1, g2⟩ := HPB.out (by simpa using h3) j hjl
                have g1n : ¬ (tx[j].toNat : Int) ≤ 32 := by omega
                have g2n : ¬ 126 < (tx[j].toNat : Int) := by omega
                go_wp2
                go_round
                case rel => exact ⟨j + 1, by go_num, HJL.out⟩
                case measure => have := HJL.out; simp [intOf]; omega
              · have hjli : ¬ (j : Int) < (tx.size : Int) := by omega
                go_wp2
                go_roundw
                case rel => exact ⟨m + 1 + 1, hlt, by go_num, HBV⟩
                case measure => simp [intOf]; omega
    · obtain rfl : k = ts.length := by omega
      have HLS : Hid _ := ⟨HCL.out.last⟩
      by_cases hz : ts.length = 0
      · have hzi : ((ts.length : Int) == 0) = true := by rw [hz]; rfl
        go_wp2_with (go_at_call 13; (with_reducible refine (HL.out _ (Hb1.out.trans (HB.out.mono Hb1.out.size))).mono ?_); rintro e w3 ⟨rfl, hb3⟩)
        go_ret
        exact ⟨rfl, (Hb1.out.trans (HB.out.mono Hb1.out.size)).trans (hb3.mono (Hb1.out.trans (HB.out.mono Hb1.out.size)).size)⟩
      · have hzi : ((ts.length : Int) == 0) = false := by rw [beq_eq_false_iff_ne]; omega
        obtain ⟨b, off, rfl, hat⟩ : ∃ b off, ao = some ⟨b, off, none⟩ ∧ ∀ i, i < ts.length → TokAt wr b (off + i * 4) (ts.getD i TL.none) := by
          rcases HT.out.below HB.out (Nat.le_refl _) with h | h
          · rw [h] at hz; simp at hz
          · exact h
        obtain ⟨d0, d1, d2, d3⟩ := hat (ts.length - 1) (by omega)
        have h6 : (ts.getD (ts.length - 1) TL.none).1.k = 6 := HCL.out.last _ (by
          rw [List.getLast?_eq_getElem?, List.getD_eq_getElem?_getD]
          have : ts.length - 1 < ts.length := by omega
          simp [this])
        rw [h6] at d0
        have hw1 : IntKind.i64.wrap ((ts.length : Int) - 1) = (ts.length : Int) - 1 := by rw [IntKind.wrap_i64]; omega
        have hi1 : (0 : Int) ≤ (ts.length : Int) - 1 := by omega
        have hi2 : (ts.length : Int) - 1 < (ts.length : Int) := by omega
        have hi3 : ((ts.length : Int) - 1).toNat = ts.length - 1 := by omega
        clear hat d1 d2 d3 h6
        go_wp2_with (go_at_call 13; (with_reducible refine (HL.out _ (Hb1.out.trans (HB.out.mono Hb1.out.size))).mono ?_); rintro e w3 ⟨rfl, hb3⟩)
        go_ret
        exact ⟨rfl, (Hb1.out.trans (HB.out.mono Hb1.out.size)).trans (hb3.mono (Hb1.out.trans (HB.out.mono Hb1.out.size)).size)⟩

theorem lexerClean_walk (HA : PAll) (s : ByteArray) (w : World) (hE : Er w) :
    Calls Tryd.prog 8 #[.string s] w fun e w' => e = .returned (.bool true) ∧ Below w.heap.size w w' := by
  cases h : allM (lo s) with
  | error p => exact lexerClean_bad HA s w hE p.1 p.2 h
  | ok ts => exact lexerClean_good HA s w hE ts (all_len h) h

/-- Two lists of tokens, alike, with or without their lines. -/
def Alike (l m : List TL) (b : Bool) : Prop := l.map Prod.fst = m.map Prod.fst ∧ (b = true → l = m)
theorem Alike.len {l m : List TL} {b : Bool} (h : Alike l m b) : l.length = m.length := by
  have := congrArg List.length h.1
  simpa using this
theorem Alike.at' {l m : List TL} {b : Bool} (h : Alike l m b) (i : Nat) : (l.getD i TL.none).1 = (m.getD i TL.none).1 ∧ (b = true → (l.getD i TL.none).2 = (m.getD i TL.none).2) := by
  refine ⟨?_, fun hb => by rw [h.2 hb]⟩
  have h1 := congrArg (fun x => x[i]?) h.1
  simp only [List.getElem?_map] at h1
  rw [List.getD_eq_getElem?_getD, List.getD_eq_getElem?_getD]
  cases ha : l[i]? <;> cases hb : m[i]? <;> rw [ha, hb] at h1 <;> simp at h1 ⊢
  exact h1

set_option maxHeartbeats 8000000 in
set_option maxRecDepth 10000 in
theorem same_any (ao bo : Option Addr) (c d : Nat) (l m : List TL) (lines : Bool) (w : World) (hl : l.length ≤ 9223372036854775806) (h1 : ToksP w ao l) (h2 : Toks w bo m) (ha : Alike l m lines) :
    Calls Tryd.prog 11 #[.slice ao l.length c, .slice bo m.length d, .bool lines] w fun e w' => e = .returned (.bool true) ∧ Below w.heap.size w w' := by
  have H1 : Hid _ := ⟨h1⟩
  have H2 : Hid _ := ⟨h2⟩
  have HA : Hid _ := ⟨ha.at'⟩
  rw [← ha.len]
  have HL : Hid _ := ⟨ha.len⟩
  have hnn : ((l.length : Int) != (l.length : Int)) = false := by simp
  clear h1 h2 ha
  cases lines
  all_goals
    go_enter Tryd.func11, Tryd.ntmps11
    go_wp2
    go_loopw [7] (fun i wr => ∃ k : Nat, k ≤ l.length ∧ i = .int .i64 k ∧ Hid (Below w.heap.size w wr)) (fun i _ => l.length - (intOf i).toNat)
    case atStart => exact ⟨0, by omega, rfl, ⟨Below.refl _ _⟩⟩
    case round =>
      obtain ⟨k, hk, rfl, HB⟩ := hrel
      by_cases hlt : k < l.length
      · obtain ⟨b1, o1, rfl, hc1⟩ : ∃ b off, ao = some ⟨b, off, none⟩ ∧ ∀ i, i < l.length → TokAt wr b (off + i * 4) (l.getD i TL.none) := by
          rcases H1.out.below HB.out (Nat.le_refl _) with h | h
          · rw [h] at hlt; simp at hlt
          · exact h
        obtain ⟨b2, o2, rfl, hc2⟩ : ∃ b off, bo = some ⟨b, off, none⟩ ∧ ∀ i, i < m.length → TokAt wr b (off + i * 4) (m.getD i TL.none) := by
          rcases H2.out.below HB.out (Nat.le_refl _) with h | h
          · rw [HL.out, h] at hlt; simp at hlt
          · exact h
        obtain ⟨c0, c1, c2, c3⟩ := hc1 k hlt
        obtain ⟨d0, d1, d2, d3⟩ := hc2 k (by rw [← HL.out]; exact hlt)
        obtain ⟨he1, he2⟩ := HA.out k
        generalize l.getD k TL.none = p at *
        generalize m.getD k TL.none = q at *
        obtain ⟨⟨pk, pn, pt⟩, pl⟩ := p
        obtain ⟨⟨qk, qn, qt⟩, ql⟩ := q
        dsimp only at c0 c1 c2 c3 d0 d1 d2 d3 he1 he2
        simp only [Tok.mk.injEq] at he1
        obtain ⟨rfl, rfl, rfl⟩ := he1
        first
          | (have e := he2 (by first | rfl | trivial); subst e)
          | (clear he2)
        have t1 : (pk != pk) = false := by simp
        have t2 : (pn != pn) = false := by simp
        have t3 : ((St pt).toList != (St pt).toList) = false := by simp
        have t4 : (pl != pl) = false := by simp
        have i1 : (0 : Int) ≤ (k : Int) := by omega
        have i2 : (k : Int) < (l.length : Int) := by omega
        generalize St pt = sx at *
        clear hc1 hc2
        go_wp2
        go_quiet (fail)
        go_wp2
        go_roundw
        case rel => exact ⟨k + 1, hlt, by go_num, ⟨below_drewN HB.out _⟩⟩
        case measure => simp [intOf]; omega
      · obtain rfl : k = l.length := by omega
        go_wp2
        go_ret
        exact ⟨rfl, HB.out⟩


/-- Cells that may be written over: so many tokens, in block g. -/
def SfT (w : World) (g n : Nat) : Prop := ∃ cur : Array Value, w.heap[g]? = some (.cells cur 32) ∧ n * 4 ≤ cur.size
theorem SfT.set {w : World} {g n : Nat} (h : SfT w g n) (i : Nat) (v : Value) : SfT (w.setCell ⟨g, i, none⟩ v) g n := by
  obtain ⟨cur, hc, hz⟩ := h
  refine ⟨cur.set! i v, ?_, by simpa using hz⟩
  simp [World.setCell, Array.getElem?_modify, hc]
theorem SfT.cell {w : World} {g n : Nat} (h : SfT w g n) (i : Nat) (hi : i < n * 4) : (∃ v, w.cell? ⟨g, i, none⟩ = some v) ∧ w.frozen? ⟨g, i, none⟩ = false := by
  obtain ⟨cur, hc, hz⟩ := h
  have hlt : i < cur.size := by omega
  exact ⟨⟨cur[i], by simp [World.cell?, hc, hlt]⟩, by simp [World.frozen?, hc]⟩
theorem SfT.turn {w w' : World} {g n : Nat} (h : SfT w g n) (hb : Below w.heap.size w w') : SfT w' g n := by
  obtain ⟨cur, hc, hz⟩ := h
  exact ⟨cur, by rw [hb.block g (Array.getElem?_eq_some_iff.1 hc).1]; exact hc, hz⟩
theorem OwnTP.soft {w : World} {base : Nat} {ao : Option Addr} {c : Nat} {l : List TL} (h : OwnTP w base (.slice ao l.length c) l) (hne : 0 < l.length) : ∃ g, ao = some ⟨g, 0, none⟩ ∧ base ≤ g ∧ g < w.heap.size ∧ SfT w g l.length := by
  rcases h.2 with ⟨hv, hn⟩ | ⟨g, cap, cur, hv, hb, hg, h1, h2, h3, h4⟩
  · omega
  · simp only [Value.slice.injEq] at hv
    obtain ⟨rfl, _, rfl⟩ := hv
    exact ⟨g, rfl, hb, (Array.getElem?_eq_some_iff.1 hg).1, cur, hg, by rw [h3]; omega⟩

theorem Alike.refl (l : List TL) (b : Bool) : Alike l l b := ⟨rfl, fun _ => rfl⟩
/-- What an All answered: its list, line and error. -/
def mL (m : Except (Int × Int) (List TL)) : List TL := match m with | .error _ => [] | .ok ts => ts
def mN (m : Except (Int × Int) (List TL)) : Int := match m with | .error p => p.1 | .ok _ => 0
def mE (m : Except (Int × Int) (List TL)) : Int := match m with | .error p => p.2 | .ok _ => 0
theorem AEndsP.open {m : Except (Int × Int) (List TL)} {w w' : World} {e : Ending} (h : AEndsP m w e w') : ∃ ao c, e = .returned (.tuple #[.slice ao (mL m).length c, .int .i64 (mN m), .int .i64 (mE m)]) ∧ OwnTP w' w.heap.size (.slice ao (mL m).length c) (mL m) ∧ Below w.heap.size w w' := by
  cases m with
  | error p => exact ⟨none, 0, h.1, OwnTP.nil _ _, h.2⟩
  | ok ts =>
    obtain ⟨v, he, ho, hb⟩ := h
    obtain ⟨ao, c, rfl, _⟩ := OwnTP.any ho
    exact ⟨ao, c, he, ho, hb⟩
theorem AEnds.open {m : Except (Int × Int) (List TL)} {w w' : World} {e : Ending} (h : AEnds m w e w') : ∃ ao c, e = .returned (.tuple #[.slice ao (mL m).length c, .int .i64 (mN m), .int .i64 (mE m)]) ∧ OwnT w' w.heap.size (.slice ao (mL m).length c) (mL m) ∧ Below w.heap.size w w' := by
  cases m with
  | error p => exact ⟨none, 0, h.1, OwnT.nil _ _, h.2⟩
  | ok ts =>
    obtain ⟨v, he, ho, hb⟩ := h
    obtain ⟨ao, c, rfl, _⟩ := OwnT.any ho
    exact ⟨ao, c, he, ho, hb⟩
theorem OwnT.toks {w : World} {base : Nat} {ao : Option Addr} {c : Nat} {l : List TL} (h : OwnT w base (.slice ao l.length c) l) : Toks w ao l := by
  obtain ⟨ao', c', hv, _, _, ht, _⟩ := OwnT.any h
  simp only [Value.slice.injEq] at hv
  obtain ⟨rfl, _, rfl⟩ := hv
  exact ht
theorem OwnTP.toks {w : World} {base : Nat} {ao : Option Addr} {c : Nat} {l : List TL} (h : OwnTP w base (.slice ao l.length c) l) : ToksP w ao l := by
  obtain ⟨ao', c', hv, _, _, ht, _⟩ := OwnTP.any h
  simp only [Value.slice.injEq] at hv
  obtain ⟨rfl, _, rfl⟩ := hv
  exact ht
theorem mL_len (l : List UInt8) : (mL (allM l)).length ≤ 9223372036854775806 := by
  cases h : allM l with
  | error p => simp [mL]
  | ok ts => exact all_len h

set_option maxHeartbeats 8000000 in
set_option maxRecDepth 10000 in
theorem lexerCuts_walk (HA : PAll) (s : ByteArray) (w : World) (hE : Er w) :
    Calls Tryd.prog 3 #[.string s] w fun e w' => e = .returned (.bool true) ∧ Below w.heap.size w w' := by
  have HP : Hid (∀ W, Below w.heap.size w W → Calls Tryd.prog 9 #[.string s] W fun e w' => ∃ ao c, e = .returned (.tuple #[.slice ao (mL (allM (lo s))).length c, .int .i64 (mN (allM (lo s))), .int .i64 (mE (allM (lo s)))]) ∧ OwnTP w' W.heap.size (.slice ao (mL (allM (lo s))).length c) (mL (allM (lo s))) ∧ Below W.heap.size W w') := ⟨fun W hW => (HA s W (hE.below hW hE.sz)).mono fun e w' h => AEndsP.open h⟩
  have HR : Hid (∀ W, Calls Tryd.prog 10 #[.string s] W fun e w' => ∃ ao c, e = .returned (.tuple #[.slice ao (mL (allM (lo s))).length c, .int .i64 (mN (allM (lo s))), .int .i64 (mE (allM (lo s)))]) ∧ OwnT w' W.heap.size (.slice ao (mL (allM (lo s))).length c) (mL (allM (lo s))) ∧ Below W.heap.size W w') := ⟨fun W => (rall_any s W).mono fun e w' h => AEnds.open h⟩
  have HL : Hid (∀ W, Below w.heap.size w W → Calls Tryd.prog 13 #[] W fun e w' => e = .returned (.bool true) ∧ Below W.heap.size W w') := ⟨fun W hW => live_any HA W (hE.below hW hE.sz)⟩
  have hlen := mL_len (lo s)
  generalize mL (allM (lo s)) = L at *
  generalize mN (allM (lo s)) = N at *
  generalize mE (allM (lo s)) = E at *
  have hnn : (N != N) = false := by simp
  have hee : (E != E) = false := by simp
  have HSM : Hid (∀ ao c bo d W, ToksP W ao L → Toks W bo L → Calls Tryd.prog 11 #[.slice ao L.length c, .slice bo L.length d, .bool true] W fun e w' => e = .returned (.bool true) ∧ Below W.heap.size W w') := ⟨fun ao c bo d W h1 h2 => same_any ao bo c d L L true W hlen h1 h2 (Alike.refl _ _)⟩
  have tk : True := trivial
  clear HA
  go_enter Tryd.func3, Tryd.ntmps3
  go_wp2_with (first
    | (go_at_call 9; have _t := tk; (with_reducible refine (HP.out _ (Below.refl _ _)).mono ?_); rintro e w1 ⟨ao, ca, rfl, o1, hb1⟩; clear tk _t)
    | (go_at_call 10; (with_reducible refine (HR.out _).mono ?_); rintro e w2 ⟨bo, cb, rfl, o2, hb2⟩; have p2 := (OwnTP.bel o1 hb2); have B2 := hb1.trans (hb2.mono hb1.size))
    | (go_at_call 11; (with_reducible refine (HSM.out _ _ _ _ _ p2.toks o2.toks).mono ?_); rintro e w3 ⟨rfl, hb3⟩; have B3 := B2.trans (hb3.mono B2.size); have p3 := OwnTP.bel p2 hb3; have q3 := OwnT.bel o2 hb3)
    | (go_at_call 12; refine (num_any _ _).mono ?_; rintro e w' ⟨rfl, hw'⟩; subst w'))
  have Hq3 : Hid _ := ⟨q3⟩
  have HB3 : Hid _ := ⟨B3⟩
  by_cases hz : L.length = 0
  · have hzi : ¬ (0 : Int) < (L.length : Int) := by omega
    clear p2 p3 o1 o2 q3 B2 B3 hb1 hb2 hb3 hz
    go_loopw [9] (fun i wr => i = .int .i64 0 ∧ Hid (wr = w3)) (fun _ _ => 0)
    case atStart => exact ⟨rfl, ⟨rfl⟩⟩
    case round =>
      obtain ⟨rfl, HW⟩ := hrel
      have QW : OwnT wr w1.heap.size (.slice bo L.length cb) L := by rw [HW.out]; exact Hq3.out
      have BW : Below w.heap.size w wr := by rw [HW.out]; exact HB3.out
      go_wp2_with (first
        | (go_at_call 9; (with_reducible refine (HP.out _ BW).mono ?_); rintro e w4 ⟨co, cc, rfl, o4, hb4⟩; have q4 := (OwnT.bel QW hb4).toks; have B4 := BW.trans (hb4.mono BW.size))
        | (go_at_call 11; (with_reducible refine (HSM.out _ _ _ _ _ o4.toks q4).mono ?_); rintro e w5 ⟨rfl, hb5⟩; have B5 := B4.trans (hb5.mono B4.size))
        | (go_at_call 13; (with_reducible refine (HL.out _ B5).mono ?_); rintro e w6 ⟨rfl, hb6⟩))
      go_ret
      exact ⟨rfl, B5.trans (hb6.mono B5.size)⟩
  · obtain ⟨g, hao, hg1, hg2, hsf⟩ := OwnTP.soft o1 (by omega)
    subst hao
    have S3 : SfT w3 g L.length := (hsf.turn hb2).turn hb3
    have HS3 : Hid _ := ⟨S3⟩
    have HG : Hid (w.heap.size ≤ g ∧ ∀ k, (Value.slice bo L.length cb).ownBlock = some k → ¬ k = g) := ⟨hg1, fun k hk e => by have := (o2.lt k hk).1; omega⟩
    clear p2 p3 o1 o2 q3 B2 B3 hb1 hb2 hb3 hsf S3
    go_loopw [9] (fun i wr => ∃ k : Nat, k ≤ L.length ∧ i = .int .i64 k ∧ Hid (SfT wr g L.length ∧ Turn (fun x => x = g) w3 wr)) (fun i _ => L.length - (intOf i).toNat)
    case atStart => exact ⟨0, by omega, rfl, ⟨HS3.out, Turn.refl _ _⟩⟩
    case round =>
      obtain ⟨k, hk, rfl, HW⟩ := hrel
      by_cases hlt : k < L.length
      · have hlti : (k : Int) < (L.length : Int) := by omega
        have hk0 : (0 : Int) ≤ (k : Int) := by omega
        obtain ⟨⟨v0, c0⟩, f0⟩ := HW.out.1.cell (k * 4) (by omega)
        obtain ⟨⟨v1, c1⟩, f1⟩ := HW.out.1.cell (k * 4 + 1) (by omega)
        obtain ⟨⟨v2, c2⟩, f2⟩ := HW.out.1.cell (k * 4 + 2) (by omega)
        obtain ⟨⟨v3, c3⟩, f3⟩ := HW.out.1.cell (k * 4 + 3) (by omega)
        go_wp2
        go_roundw
        case rel => exact ⟨k + 1, hlt, by go_num, ⟨(((HW.out.1.set _ _).set _ _).set _ _).set _ _, ((((HW.out.2.setCell _ rfl _).setCell _ rfl _).setCell _ rfl _).setCell _ rfl _)⟩⟩
        case measure => simp [intOf]; omega
      · obtain rfl : k = L.length := by omega
        have BW := HB3.out.trans (HW.out.2.below HB3.out.size (fun x e => by rw [e]; exact HG.out.1))
        have QW : OwnT wr w1.heap.size (.slice bo L.length cb) L := HW.out.2.row Hq3.out HG.out.2
        go_wp2_with (first
          | (go_at_call 9; (with_reducible refine (HP.out _ BW).mono ?_); rintro e w4 ⟨co, cc, rfl, o4, hb4⟩; have q4 := (OwnT.bel QW hb4).toks; have B4 := BW.trans (hb4.mono BW.size))
          | (go_at_call 11; (with_reducible refine (HSM.out _ _ _ _ _ o4.toks q4).mono ?_); rintro e w5 ⟨rfl, hb5⟩; have B5 := B4.trans (hb5.mono B4.size))
          | (go_at_call 13; (with_reducible refine (HL.out _ B5).mono ?_); rintro e w6 ⟨rfl, hb6⟩))
        go_ret
        exact ⟨rfl, B5.trans (hb6.mono B5.size)⟩

theorem lo_app (a b : ByteArray) : lo (a ++ b) = lo a ++ lo b := by simp [lo]
theorem neq_tok (a b c : Int) (s : ByteArray) (w : World) : (binOp .neq 32 (.agg #[.int .i64 a, .int .i64 b, .int .i64 c, .string s]) (.agg #[.int .i64 a, .int .i64 b, .int .i64 c, .string s])).run Tryd.prog w = .ok (.bool false) w := by
  simp [go_sem]
/-- Where All is not too great, it is the cutting. -/
theorem all_of {l : List UInt8} (h : ¬ mE (allM l) = 6) : (linesM l).length ≤ 4000 ∧ allM l = match cutF (linesM l) 1 [] with | .error k => .error (k, 100) | .ok ts => .ok ts := by
  unfold allM at h ⊢
  split at h
  · exact absurd rfl h
  · rename_i h1
    rw [if_neg h1]
    split at h
    · exact absurd rfl h
    · rename_i h2
      rw [if_neg h2]
      exact ⟨by omega, rfl⟩
theorem lcut_line : ∀ (L : List (List UInt8)) (k : Nat) (acc ts : List TL), (∀ p ∈ acc, 0 ≤ p.2 ∧ p.2 ≤ k) → cutF L k acc = .ok ts → ∀ p ∈ ts, 0 ≤ p.2 ∧ p.2 ≤ k + L.length
  | [], k, acc, ts, ha, h => by
    cases h
    intro p hp
    have := ha p hp
    simp; omega
  | s :: L, k, acc, ts, ha, h => by
    simp only [cutF] at h
    cases hl : lineM s with
    | none => rw [hl] at h; cases h
    | some l =>
      rw [hl] at h
      intro p hp
      have := lcut_line L (k + 1) _ ts (fun q hq => by
        rcases List.mem_append.1 hq with hq | hq
        · have := ha q hq; omega
        · obtain ⟨t, _, rfl⟩ := List.mem_map.1 hq
          show (0 : Int) ≤ (k : Int) ∧ (k : Int) ≤ ((k + 1 : Nat) : Int)
          omega) h p hp
      simp only [List.length_cons]
      omega

theorem cut_err_le : ∀ (L : List (List UInt8)) (k : Nat) (acc : List TL) (m : Int), cutF L k acc = .error m → m ≤ k + L.length
  | [], k, acc, m, h => by cases h
  | s :: L, k, acc, m, h => by
    simp only [cutF] at h
    cases hs : lineM s with
    | none => rw [hs] at h; cases h; simp only [List.length_cons]; omega
    | some l =>
      rw [hs] at h
      have := cut_err_le L (k + 1) _ m h
      simp only [List.length_cons]
      omega
/-- What the three answers have to do with one another. -/
theorem lines_law (a b : List UInt8) (h1 : ¬ mE (allM (a ++ [10])) = 6) (h2 : ¬ mE (allM b) = 6) (h3 : ¬ mE (allM (a ++ 10 :: b)) = 6) :
    (mE (allM (a ++ [10])) = 100 ∧ mE (allM (a ++ 10 :: b)) = 100 ∧ mN (allM (a ++ 10 :: b)) = mN (allM (a ++ [10]))) ∨
    (mE (allM (a ++ [10])) = 0 ∧ mE (allM b) = 100 ∧ mE (allM (a ++ 10 :: b)) = 100 ∧ mN (allM (a ++ 10 :: b)) = mN (allM b) + ((linesM (a ++ [10])).length : Int) ∧ 0 ≤ mN (allM b) ∧ mN (allM b) ≤ 4001) ∨
    (mE (allM (a ++ [10])) = 0 ∧ mE (allM b) = 0 ∧ mE (allM (a ++ 10 :: b)) = 0 ∧ mL (allM (a ++ 10 :: b)) = mL (allM (a ++ [10])) ++ (mL (allM b)).map (shiftT ((linesM (a ++ [10])).length : Int)) ∧ ∀ p ∈ mL (allM b), 0 ≤ p.2 ∧ p.2 ≤ 4001) := by
  obtain ⟨_, e1⟩ := all_of h1
  obtain ⟨l2, e2⟩ := all_of h2
  obtain ⟨_, e3⟩ := all_of h3
  rw [e1, e2, e3, cut_two a b]
  cases hx : cutF (linesM (a ++ [10])) 1 [] with
  | error m => exact .inl ⟨rfl, rfl, rfl⟩
  | ok xs =>
    cases hy : cutF (linesM b) 1 [] with
    | error m => exact .inr (.inl ⟨rfl, rfl, rfl, rfl, by have := cut_err _ 1 [] _ (by omega) hy; show 0 ≤ m; omega, by have := cut_err_le _ _ _ _ hy; show m ≤ 4001; omega⟩)
    | ok ys =>
      refine .inr (.inr ⟨rfl, rfl, rfl, rfl, fun p hp => ?_⟩)
      have := lcut_line _ _ _ _ (fun q hq => by cases hq) hy p hp
      omega

set_option maxHeartbeats 16000000 in
set_option maxRecDepth 10000 in
theorem lexerLines_walk (HA : PAll) (a b : ByteArray) (w : World) (hE : Er w) (ha : a.size ≤ 8796093022205) (hb : b.size ≤ 8796093022205) :
    Calls Tryd.prog 6 #[.string a, .string b] w fun e w' => e = .returned (.bool true) ∧ Below w.heap.size w w' := by
  have op : ∀ (s : ByteArray) (l : List UInt8), lo s = l → ∀ W, Below w.heap.size w W → Calls Tryd.prog 9 #[.string s] W fun e w' => ∃ ao c, e = .returned (.tuple #[.slice ao (mL (allM l)).length c, .int .i64 (mN (allM l)), .int .i64 (mE (allM l))]) ∧ OwnTP w' W.heap.size (.slice ao (mL (allM l)).length c) (mL (allM l)) ∧ Below W.heap.size W w' := fun s l hs W hW => by
    have := (HA s W (hE.below hW hE.sz)).mono fun e w' h => AEndsP.open h
    rw [hs] at this
    exact this
  have HX : Hid _ := ⟨op (a ++ ⟨#[10]⟩) (lo a ++ [10]) (by rw [lo_app]; rfl)⟩
  have HY : Hid _ := ⟨op b (lo b) rfl⟩
  have HZ : Hid _ := ⟨op (a ++ ⟨#[10]⟩ ++ b) (lo a ++ 10 :: lo b) (by rw [lo_app, lo_app]; show lo a ++ [10] ++ lo b = _; simp)⟩
  have HR : Hid (∀ W, Calls Tryd.prog 19 #[.string (a ++ ⟨#[10]⟩)] W fun e w' => ∃ ao c, e = .returned (.slice ao (linesM (lo a ++ [10])).length c) ∧ Below W.heap.size W w') := ⟨fun W => by
    have h := rlines_any (a ++ ⟨#[10]⟩) W (by rw [ByteArray.size_append]; show a.size + 1 ≤ _; omega)
    rw [show lo (a ++ ⟨#[10]⟩) = lo a ++ [10] by rw [lo_app]; rfl] at h
    refine h.mono ?_
    rintro e w' ⟨v, rfl, ho, hb⟩
    obtain ⟨ao, c, rfl, _⟩ := OwnS.any ho
    rw [List.length_map]
    exact ⟨ao, c, rfl, hb⟩⟩
  have HL : Hid (∀ W, Below w.heap.size w W → Calls Tryd.prog 13 #[] W fun e w' => e = .returned (.bool true) ∧ Below W.heap.size W w') := ⟨fun W hW => live_any HA W (hE.below hW hE.sz)⟩
  have hlz := mL_len (lo a ++ 10 :: lo b)
  have hrl : (linesM (lo a ++ [10])).length ≤ 8796093022208 := by
    have := (lines_all (lo a ++ [10]) []).1
    rw [List.length_append, lo_len] at this
    simp at this
    have e : (linesM (lo a ++ [10])) = linesF (lo a ++ [10]) [] := rfl
    rw [e]; omega
  have LW := lines_law (lo a) (lo b)
  generalize linesM (lo a ++ [10]) = LS at *
  generalize allM (lo a ++ [10]) = X at *
  generalize allM (lo b) = Y at *
  generalize allM (lo a ++ 10 :: lo b) = Z at *
  generalize hLx : mL X = xs at *
  generalize hLy : mL Y = ys at *
  generalize hLz : mL Z = zs at *
  generalize hNx : mN X = nx at *
  generalize hNy : mN Y = ny at *
  generalize hNz : mN Z = nz at *
  generalize hEx : mE X = ex at *
  generalize hEy : mE Y = ey at *
  generalize hEz : mE Z = ez at *
  have tk1 : True := trivial
  have tk2 : True := trivial
  clear op HA hLx hLy hLz hNx hNy hNz hEx hEy hEz
  cases q1 : (ex == 6)
  · cases q2 : (ey == 6)
    · cases q3 : (ez == 6)
      · rcases LW (by simpa using q1) (by simpa using q2) (by simpa using q3) with ⟨rfl, rfl, rfl⟩ | ⟨rfl, rfl, rfl, h, hy0, hy1⟩ | ⟨rfl, rfl, rfl, h, hp⟩
        · clear LW q1 q3
          have qn : (nz == nz) = true := by simp
          go_enter Tryd.func6, Tryd.ntmps6
          go_wp2_with (first
            | (go_at_call 9; have _t := tk1; (with_reducible refine (HX.out _ (Below.refl _ _)).mono ?_); rintro e w1 ⟨ax, cx, rfl, ox, hb1⟩; clear tk1 _t)
            | (go_at_call 9; have _t := tk2; (with_reducible refine (HY.out _ hb1).mono ?_); rintro e w2 ⟨ay, cy, rfl, oy, hb2⟩; have B2 := hb1.trans (hb2.mono hb1.size); clear tk2 _t)
            | (go_at_call 9; (with_reducible refine (HZ.out _ B2).mono ?_); rintro e w3 ⟨az, cz, rfl, oz, hb3⟩; have B3 := B2.trans (hb3.mono B2.size))
            | (go_at_call 19; (with_reducible refine (HR.out _).mono ?_); rintro e w4 ⟨al, cl, rfl, hb4⟩; have B4 := B3.trans (hb4.mono B3.size); have HB4 : Hid _ := ⟨B4⟩; have HOX : Hid _ := ⟨(OwnTP.bel (OwnTP.bel (OwnTP.bel ox hb2) hb3) hb4).toks⟩; have HOY : Hid _ := ⟨(OwnTP.bel (OwnTP.bel oy hb3) hb4).toks⟩; have HOZ : Hid _ := ⟨(OwnTP.bel oz hb4).toks⟩; clear ox oy oz B2 B3 B4 hb1 hb2 hb3 hb4)
            | (go_at_call 12; refine (num_any _ _).mono ?_; rintro e w' ⟨rfl, hw'⟩; subst w')
            | (go_at_call 13; (with_reducible refine (HL.out _ HB4.out).mono ?_); rintro e w5 ⟨rfl, hb5⟩))
          go_ret
          exact ⟨rfl, HB4.out.trans (hb5.mono HB4.out.size)⟩
        · have qn : (nz == ny + (LS.length : Int)) = true := by rw [h]; simp
          have hwn : IntKind.i64.wrap (ny + (LS.length : Int)) = ny + (LS.length : Int) := by rw [IntKind.wrap_i64]; omega
          clear LW q1 q2 q3
          have HH : Hid _ := ⟨h⟩
          clear h
          go_enter Tryd.func6, Tryd.ntmps6
          go_wp2_with (first
            | (go_at_call 9; have _t := tk1; (with_reducible refine (HX.out _ (Below.refl _ _)).mono ?_); rintro e w1 ⟨ax, cx, rfl, ox, hb1⟩; clear tk1 _t)
            | (go_at_call 9; have _t := tk2; (with_reducible refine (HY.out _ hb1).mono ?_); rintro e w2 ⟨ay, cy, rfl, oy, hb2⟩; have B2 := hb1.trans (hb2.mono hb1.size); clear tk2 _t)
            | (go_at_call 9; (with_reducible refine (HZ.out _ B2).mono ?_); rintro e w3 ⟨az, cz, rfl, oz, hb3⟩; have B3 := B2.trans (hb3.mono B2.size))
            | (go_at_call 19; (with_reducible refine (HR.out _).mono ?_); rintro e w4 ⟨al, cl, rfl, hb4⟩; have B4 := B3.trans (hb4.mono B3.size); have HB4 : Hid _ := ⟨B4⟩; have HOX : Hid _ := ⟨(OwnTP.bel (OwnTP.bel (OwnTP.bel ox hb2) hb3) hb4).toks⟩; have HOY : Hid _ := ⟨(OwnTP.bel (OwnTP.bel oy hb3) hb4).toks⟩; have HOZ : Hid _ := ⟨(OwnTP.bel oz hb4).toks⟩; clear ox oy oz B2 B3 B4 hb1 hb2 hb3 hb4)
            | (go_at_call 12; refine (num_any _ _).mono ?_; rintro e w' ⟨rfl, hw'⟩; subst w')
            | (go_at_call 13; (with_reducible refine (HL.out _ HB4.out).mono ?_); rintro e w5 ⟨rfl, hb5⟩))
          go_ret
          exact ⟨rfl, HB4.out.trans (hb5.mono HB4.out.size)⟩
        · clear LW q1 q2 q3
          have hzl : zs.length = xs.length + ys.length := by rw [h, List.length_append, List.length_map]
          have HZL : Hid _ := ⟨hzl⟩
          have HH : Hid _ := ⟨h⟩
          have HPP : Hid _ := ⟨hp⟩
          have hws : IntKind.i64.wrap ((xs.length : Int) + (ys.length : Int)) = (xs.length : Int) + (ys.length : Int) := by rw [IntKind.wrap_i64]; omega
          have qz : ((zs.length : Int) != (xs.length : Int) + (ys.length : Int)) = false := by rw [bne_eq_false_iff_eq]; omega
          clear h hp hzl
          go_enter Tryd.func6, Tryd.ntmps6
          go_wp2_with (first
            | (go_at_call 9; have _t := tk1; (with_reducible refine (HX.out _ (Below.refl _ _)).mono ?_); rintro e w1 ⟨ax, cx, rfl, ox, hb1⟩; clear tk1 _t)
            | (go_at_call 9; have _t := tk2; (with_reducible refine (HY.out _ hb1).mono ?_); rintro e w2 ⟨ay, cy, rfl, oy, hb2⟩; have B2 := hb1.trans (hb2.mono hb1.size); clear tk2 _t)
            | (go_at_call 9; (with_reducible refine (HZ.out _ B2).mono ?_); rintro e w3 ⟨az, cz, rfl, oz, hb3⟩; have B3 := B2.trans (hb3.mono B2.size))
            | (go_at_call 19; (with_reducible refine (HR.out _).mono ?_); rintro e w4 ⟨al, cl, rfl, hb4⟩; have B4 := B3.trans (hb4.mono B3.size); have HB4 : Hid _ := ⟨B4⟩; have HOX : Hid _ := ⟨(OwnTP.bel (OwnTP.bel (OwnTP.bel ox hb2) hb3) hb4).toks⟩; have HOY : Hid _ := ⟨(OwnTP.bel (OwnTP.bel oy hb3) hb4).toks⟩; have HOZ : Hid _ := ⟨(OwnTP.bel oz hb4).toks⟩; clear ox oy oz B2 B3 B4 hb1 hb2 hb3 hb4)
            | (go_at_call 12; refine (num_any _ _).mono ?_; rintro e w' ⟨rfl, hw'⟩; subst w')
            | (go_at_call 13; (with_reducible refine (HL.out _ HB4.out).mono ?_); rintro e w5 ⟨rfl, hb5⟩))
          go_loopw [15] (fun i wr => ∃ k : Nat, k ≤ zs.length ∧ i = .int .i64 k ∧ Hid (Below w4.heap.size w4 wr)) (fun i _ => zs.length - (intOf i).toNat)
          case atStart => exact ⟨0, by omega, rfl, ⟨Below.refl _ _⟩⟩
          case round =>
            obtain ⟨k, hk, rfl, HB⟩ := hrel
            by_cases hlt : k < zs.length
            · have hlti : (k : Int) < (zs.length : Int) := by omega
              have hk0 : (0 : Int) ≤ (k : Int) := by omega
              obtain ⟨bz, fz, rfl, hcz⟩ : ∃ b off, az = some ⟨b, off, none⟩ ∧ ∀ i, i < zs.length → TokAt wr b (off + i * 4) (zs.getD i TL.none) := by
                rcases HOZ.out.below HB.out (Nat.le_refl _) with h | h
                · rw [h] at hlt; simp at hlt
                · exact h
              obtain ⟨z0, z1, z2, z3⟩ := hcz k hlt
              by_cases hx : k < xs.length
              · have hxi : (k : Int) < (xs.length : Int) := by omega
                obtain ⟨bx, fx, rfl, hcx⟩ : ∃ b off, ax = some ⟨b, off, none⟩ ∧ ∀ i, i < xs.length → TokAt wr b (off + i * 4) (xs.getD i TL.none) := by
                  rcases HOX.out.below HB.out (Nat.le_refl _) with h | h
                  · rw [h] at hx; simp at hx
                  · exact h
                obtain ⟨x0, x1, x2, x3⟩ := hcx k hx
                have he : zs.getD k TL.none = xs.getD k TL.none := by
                  rw [HH.out, List.getD_eq_getElem?_getD, List.getD_eq_getElem?_getD, List.getElem?_append_left hx]
                rw [he] at z0 z1 z2 z3
                generalize xs.getD k TL.none = p at *
                obtain ⟨⟨pk, pn, pt⟩, pl⟩ := p
                dsimp only at x0 x1 x2 x3 z0 z1 z2 z3
                generalize St pt = sx at *
                have hneq := neq_tok pk pl pn sx
                have hbl : bz < wr.heap.size := World.block_lt_of_cell? wr _ z0
                have hbn : ¬ bz = wr.heap.size := by omega
                have hxl := World.block_lt_of_cell? wr _ x0
                have hxn : ¬ bx = wr.heap.size := by dsimp only at hxl; omega
                have D0 : (wr.alloc (.cells #[.int .i64 pk, .int .i64 pl, .int .i64 pn, .string sx] 32)).cell? ⟨bz, fz + k * 4, none⟩ = some (.int .i64 pk) := ((Below.refl wr.heap.size wr).alloc (Nat.le_refl _) (.cells #[.int .i64 pk, .int .i64 pl, .int .i64 pn, .string sx] 32) |>.cell (p := ⟨bz, fz + k * 4, none⟩) hbl).trans z0
                have D1 : (wr.alloc (.cells #[.int .i64 pk, .int .i64 pl, .int .i64 pn, .string sx] 32)).cell? ⟨bz, fz + k * 4 + 1, none⟩ = some (.int .i64 pl) := ((Below.refl wr.heap.size wr).alloc (Nat.le_refl _) (.cells #[.int .i64 pk, .int .i64 pl, .int .i64 pn, .string sx] 32) |>.cell (p := ⟨bz, fz + k * 4 + 1, none⟩) hbl).trans z1
                have D2 : (wr.alloc (.cells #[.int .i64 pk, .int .i64 pl, .int .i64 pn, .string sx] 32)).cell? ⟨bz, fz + k * 4 + 2, none⟩ = some (.int .i64 pn) := ((Below.refl wr.heap.size wr).alloc (Nat.le_refl _) (.cells #[.int .i64 pk, .int .i64 pl, .int .i64 pn, .string sx] 32) |>.cell (p := ⟨bz, fz + k * 4 + 2, none⟩) hbl).trans z2
                have D3 : (wr.alloc (.cells #[.int .i64 pk, .int .i64 pl, .int .i64 pn, .string sx] 32)).cell? ⟨bz, fz + k * 4 + 3, none⟩ = some (.string sx) := ((Below.refl wr.heap.size wr).alloc (Nat.le_refl _) (.cells #[.int .i64 pk, .int .i64 pl, .int .i64 pn, .string sx] 32) |>.cell (p := ⟨bz, fz + k * 4 + 3, none⟩) hbl).trans z3
                clear hcz hcx he
                go_wp2
                go_quiet (fail)
                go_wp2
                go_roundw
                case rel => exact ⟨k + 1, hlt, by go_num, ⟨below_drewN (HB.out.alloc HB.out.size _) _⟩⟩
                case measure => simp [intOf]; omega
              · have hxi : ¬ (k : Int) < (xs.length : Int) := by omega
                obtain ⟨j, rfl⟩ : ∃ j, k = xs.length + j := ⟨k - xs.length, by omega⟩
                have hj : j < ys.length := by have := HZL.out; omega
                obtain ⟨by', fy, rfl, hcy⟩ : ∃ b off, ay = some ⟨b, off, none⟩ ∧ ∀ i, i < ys.length → TokAt wr b (off + i * 4) (ys.getD i TL.none) := by
                  rcases HOY.out.below HB.out (Nat.le_refl _) with h | h
                  · rw [h] at hj; simp at hj
                  · exact h
                obtain ⟨x0, x1, x2, x3⟩ := hcy j hj
                have he : zs.getD (xs.length + j) TL.none = shiftT (LS.length : Int) (ys.getD j TL.none) := by
                  rw [HH.out, List.getD_eq_getElem?_getD, List.getElem?_append_right (by omega), Nat.add_sub_cancel_left, List.getElem?_map, List.getD_eq_getElem?_getD]
                  simp [hj]
                rw [he] at z0 z1 z2 z3
                have hpl := HPP.out (ys.getD j TL.none) (by
                  have : ys.getD j TL.none = ys[j] := by simp [hj]
                  rw [this]; exact List.getElem_mem hj)
                generalize ys.getD j TL.none = p at *
                obtain ⟨⟨pk, pn, pt⟩, pl⟩ := p
                dsimp only [shiftT] at x0 x1 x2 x3 z0 z1 z2 z3 hpl
                generalize St pt = sx at *
                have hneq := neq_tok pk (pl + (LS.length : Int)) pn sx
                have hbl : bz < wr.heap.size := World.block_lt_of_cell? wr _ z0
                have hbn : ¬ bz = wr.heap.size := by omega
                have hxl := World.block_lt_of_cell? wr _ x0
                have hxn : ¬ by' = wr.heap.size := by dsimp only at hxl; omega
                have hji : (j : Int) < (ys.length : Int) := by omega
                have hj0 : (0 : Int) ≤ (j : Int) := by omega
                have hsub : ((xs.length + j : Nat) : Int) - (xs.length : Int) = (j : Int) := by omega
                have hsub2 : (xs.length : Int) + (j : Int) - (xs.length : Int) = (j : Int) := by omega
                have hwl : IntKind.i64.wrap (pl + (LS.length : Int)) = pl + (LS.length : Int) := by rw [IntKind.wrap_i64]; omega
                have D0 : (wr.alloc (.cells #[.int .i64 pk, .int .i64 (pl + (LS.length : Int)), .int .i64 pn, .string sx] 32)).cell? ⟨bz, fz + (xs.length + j) * 4, none⟩ = some (.int .i64 pk) := ((Below.refl wr.heap.size wr).alloc (Nat.le_refl _) (.cells #[.int .i64 pk, .int .i64 (pl + (LS.length : Int)), .int .i64 pn, .string sx] 32) |>.cell (p := ⟨bz, fz + (xs.length + j) * 4, none⟩) hbl).trans z0
                have D1 : (wr.alloc (.cells #[.int .i64 pk, .int .i64 (pl + (LS.length : Int)), .int .i64 pn, .string sx] 32)).cell? ⟨bz, fz + (xs.length + j) * 4 + 1, none⟩ = some (.int .i64 (pl + (LS.length : Int))) := ((Below.refl wr.heap.size wr).alloc (Nat.le_refl _) (.cells #[.int .i64 pk, .int .i64 (pl + (LS.length : Int)), .int .i64 pn, .string sx] 32) |>.cell (p := ⟨bz, fz + (xs.length + j) * 4 + 1, none⟩) hbl).trans z1
                have D2 : (wr.alloc (.cells #[.int .i64 pk, .int .i64 (pl + (LS.length : Int)), .int .i64 pn, .string sx] 32)).cell? ⟨bz, fz + (xs.length + j) * 4 + 2, none⟩ = some (.int .i64 pn) := ((Below.refl wr.heap.size wr).alloc (Nat.le_refl _) (.cells #[.int .i64 pk, .int .i64 (pl + (LS.length : Int)), .int .i64 pn, .string sx] 32) |>.cell (p := ⟨bz, fz + (xs.length + j) * 4 + 2, none⟩) hbl).trans z2
                have D3 : (wr.alloc (.cells #[.int .i64 pk, .int .i64 (pl + (LS.length : Int)), .int .i64 pn, .string sx] 32)).cell? ⟨bz, fz + (xs.length + j) * 4 + 3, none⟩ = some (.string sx) := ((Below.refl wr.heap.size wr).alloc (Nat.le_refl _) (.cells #[.int .i64 pk, .int .i64 (pl + (LS.length : Int)), .int .i64 pn, .string sx] 32) |>.cell (p := ⟨bz, fz + (xs.length + j) * 4 + 3, none⟩) hbl).trans z3
                clear hcz hcy he
                go_wp2
                go_quiet (fail)
                go_wp2
                go_roundw
                case rel => exact ⟨xs.length + j + 1, hlt, by go_num, ⟨below_drewN (HB.out.alloc HB.out.size _) _⟩⟩
                case measure => simp [intOf]; omega
            · obtain rfl : k = zs.length := by omega
              go_wp2_with (go_at_call 13; (with_reducible refine (HL.out _ (HB4.out.trans (HB.out.mono HB4.out.size))).mono ?_); rintro e w5 ⟨rfl, hb5⟩)
              go_ret
              have B5 := HB4.out.trans (HB.out.mono HB4.out.size)
              exact ⟨rfl, B5.trans (hb5.mono B5.size)⟩
      · clear LW
        go_enter Tryd.func6, Tryd.ntmps6
        go_wp2_with (first
          | (go_at_call 9; have _t := tk1; (with_reducible refine (HX.out _ (Below.refl _ _)).mono ?_); rintro e w1 ⟨ax, cx, rfl, ox, hb1⟩; clear tk1 _t)
          | (go_at_call 9; have _t := tk2; (with_reducible refine (HY.out _ hb1).mono ?_); rintro e w2 ⟨ay, cy, rfl, oy, hb2⟩; have B2 := hb1.trans (hb2.mono hb1.size); clear tk2 _t)
          | (go_at_call 9; (with_reducible refine (HZ.out _ B2).mono ?_); rintro e w3 ⟨az, cz, rfl, oz, hb3⟩; have B3 := B2.trans (hb3.mono B2.size))
          | (go_at_call 19; (with_reducible refine (HR.out _).mono ?_); rintro e w4 ⟨al, cl, rfl, hb4⟩; have B4 := B3.trans (hb4.mono B3.size); have HB4 : Hid _ := ⟨B4⟩; have HOX : Hid _ := ⟨(OwnTP.bel (OwnTP.bel (OwnTP.bel ox hb2) hb3) hb4).toks⟩; have HOY : Hid _ := ⟨(OwnTP.bel (OwnTP.bel oy hb3) hb4).toks⟩; have HOZ : Hid _ := ⟨(OwnTP.bel oz hb4).toks⟩; clear ox oy oz B2 B3 B4 hb1 hb2 hb3 hb4)
          | (go_at_call 12; refine (num_any _ _).mono ?_; rintro e w' ⟨rfl, hw'⟩; subst w')
          | (go_at_call 13; (with_reducible refine (HL.out _ HB4.out).mono ?_); rintro e w5 ⟨rfl, hb5⟩))
        go_ret
        exact ⟨rfl, HB4.out.trans (hb5.mono HB4.out.size)⟩
    · clear LW
      go_enter Tryd.func6, Tryd.ntmps6
      go_wp2_with (first
        | (go_at_call 9; have _t := tk1; (with_reducible refine (HX.out _ (Below.refl _ _)).mono ?_); rintro e w1 ⟨ax, cx, rfl, ox, hb1⟩; clear tk1 _t)
        | (go_at_call 9; have _t := tk2; (with_reducible refine (HY.out _ hb1).mono ?_); rintro e w2 ⟨ay, cy, rfl, oy, hb2⟩; have B2 := hb1.trans (hb2.mono hb1.size); clear tk2 _t)
        | (go_at_call 9; (with_reducible refine (HZ.out _ B2).mono ?_); rintro e w3 ⟨az, cz, rfl, oz, hb3⟩; have B3 := B2.trans (hb3.mono B2.size))
        | (go_at_call 19; (with_reducible refine (HR.out _).mono ?_); rintro e w4 ⟨al, cl, rfl, hb4⟩; have B4 := B3.trans (hb4.mono B3.size); have HB4 : Hid _ := ⟨B4⟩; have HOX : Hid _ := ⟨(OwnTP.bel (OwnTP.bel (OwnTP.bel ox hb2) hb3) hb4).toks⟩; have HOY : Hid _ := ⟨(OwnTP.bel (OwnTP.bel oy hb3) hb4).toks⟩; have HOZ : Hid _ := ⟨(OwnTP.bel oz hb4).toks⟩; clear ox oy oz B2 B3 B4 hb1 hb2 hb3 hb4)
        | (go_at_call 12; refine (num_any _ _).mono ?_; rintro e w' ⟨rfl, hw'⟩; subst w')
        | (go_at_call 13; (with_reducible refine (HL.out _ HB4.out).mono ?_); rintro e w5 ⟨rfl, hb5⟩))
      go_ret
      exact ⟨rfl, HB4.out.trans (hb5.mono HB4.out.size)⟩
  · clear LW
    go_enter Tryd.func6, Tryd.ntmps6
    go_wp2_with (first
      | (go_at_call 9; have _t := tk1; (with_reducible refine (HX.out _ (Below.refl _ _)).mono ?_); rintro e w1 ⟨ax, cx, rfl, ox, hb1⟩; clear tk1 _t)
      | (go_at_call 9; have _t := tk2; (with_reducible refine (HY.out _ hb1).mono ?_); rintro e w2 ⟨ay, cy, rfl, oy, hb2⟩; have B2 := hb1.trans (hb2.mono hb1.size); clear tk2 _t)
      | (go_at_call 9; (with_reducible refine (HZ.out _ B2).mono ?_); rintro e w3 ⟨az, cz, rfl, oz, hb3⟩; have B3 := B2.trans (hb3.mono B2.size))
      | (go_at_call 19; (with_reducible refine (HR.out _).mono ?_); rintro e w4 ⟨al, cl, rfl, hb4⟩; have B4 := B3.trans (hb4.mono B3.size); have HB4 : Hid _ := ⟨B4⟩; have HOX : Hid _ := ⟨(OwnTP.bel (OwnTP.bel (OwnTP.bel ox hb2) hb3) hb4).toks⟩; have HOY : Hid _ := ⟨(OwnTP.bel (OwnTP.bel oy hb3) hb4).toks⟩; have HOZ : Hid _ := ⟨(OwnTP.bel oz hb4).toks⟩; clear ox oy oz B2 B3 B4 hb1 hb2 hb3 hb4)
      | (go_at_call 12; refine (num_any _ _).mono ?_; rintro e w' ⟨rfl, hw'⟩; subst w')
      | (go_at_call 13; (with_reducible refine (HL.out _ HB4.out).mono ?_); rintro e w5 ⟨rfl, hb5⟩))
    go_ret
    exact ⟨rfl, HB4.out.trans (hb5.mono HB4.out.size)⟩

set_option maxHeartbeats 4000000 in
set_option maxRecDepth 10000 in
theorem tokens_any (ao : Option Addr) (c : Nat) (l : List TL) (w : World) (hl : l.length ≤ 2199023255551) (hr : Toks w ao l) :
    Calls Tryd.prog 14 #[.slice ao l.length c] w fun e w' => ∃ v, e = .returned v ∧ OwnTP w' w.heap.size v l ∧ Below w.heap.size w w' := by
  have HR : Hid _ := ⟨hr⟩
  obtain ⟨i0, hi, hz0, hz1, hz2⟩ := info_parts infoTP
  have HI : Hid (_ ∧ _ ∧ _ ∧ _) := ⟨hi, hz0, hz1, hz2⟩
  clear hr hi hz0 hz1 hz2
  go_enter Tryd.func14, Tryd.ntmps14
  go_wp2
  go_loopw [4, 3] (fun i v wr => ∃ k : Nat, k ≤ l.length ∧ i = .int .i64 k ∧ Hid (OwnTP wr w.heap.size v (l.take k) ∧ Below w.heap.size w wr)) (fun i _ _ => l.length - (intOf i).toNat)
  case atStart => exact ⟨0, by omega, rfl, ⟨OwnTP.nil _ _, Below.refl _ _⟩⟩
  case round =>
    obtain ⟨k, hk, rfl, HW⟩ := hrel
    by_cases hlt : k < l.length
    · obtain ⟨b, off, rfl, hat⟩ : ∃ b off, ao = some ⟨b, off, none⟩ ∧ ∀ i, i < l.length → TokAt wr b (off + i * 4) (l.getD i TL.none) := by
        rcases HR.out.below HW.out.2 (Nat.le_refl _) with h | h
        · rw [h] at hlt; simp at hlt
        · exact h
      obtain ⟨c0, c1, c2, c3⟩ := hat k hlt
      have hlti : (k : Int) < (l.length : Int) := by omega
      have hk0 : (0 : Int) ≤ (k : Int) := by omega
      have hget : l.getD k TL.none = l[k] := by simp [hlt]
      have HT : Hid (l.take (k + 1) = l.take k ++ [l.getD k TL.none]) := ⟨by rw [hget]; exact List.take_succ_eq_append_getElem hlt⟩
      have htl : (l.take k).length = k := by rw [List.length_take]; omega
      have hbl : b < wr.heap.size := World.block_lt_of_cell? wr _ c0
      have hbs := HW.out.2.size
      clear hat hget
      generalize l.getD k TL.none = p at *
      obtain ⟨⟨pk, pn, pt⟩, pl⟩ := p
      dsimp only at c0 c1 c2 c3
      have hS : wr.drew.cell? ⟨b, off + k * 4, none⟩ = some (.int .i64 pk) ∧ wr.drew.cell? ⟨b, off + k * 4 + 1, none⟩ = some (.int .i64 pl) ∧ wr.drew.cell? ⟨b, off + k * 4 + 2, none⟩ = some (.int .i64 pn) ∧ wr.drew.cell? ⟨b, off + k * 4 + 3, none⟩ = some (.string (St pt)) := ⟨c0, c1, c2, c3⟩
      have hne : ¬ wr.heap.size = b := by omega
      have hbw : b < w.heap.size := by
        rcases HR.out with h | ⟨b', off', e, h⟩
        · rw [h] at hlt; simp at hlt
        · simp only [Option.some.injEq, Addr.mk.injEq] at e
          obtain ⟨rfl, _⟩ := e
          exact World.block_lt_of_cell? w _ (h k hlt).k
      have A0 : (wr.alloc (.cells #[.int .i64 pk, .int .i64 pl, .int .i64 pn, .string (St pt)] 32)).cell? ⟨b, off + k * 4, none⟩ = some (.int .i64 pk) := ((Below.refl wr.heap.size wr).alloc (Nat.le_refl _) (.cells #[.int .i64 pk, .int .i64 pl, .int .i64 pn, .string (St pt)] 32) |>.cell (p := ⟨b, off + k * 4, none⟩) hbl).trans c0
      have A1 : (wr.alloc (.cells #[.int .i64 pk, .int .i64 pl, .int .i64 pn, .string (St pt)] 32)).cell? ⟨b, off + k * 4 + 1, none⟩ = some (.int .i64 pl) := ((Below.refl wr.heap.size wr).alloc (Nat.le_refl _) (.cells #[.int .i64 pk, .int .i64 pl, .int .i64 pn, .string (St pt)] 32) |>.cell (p := ⟨b, off + k * 4 + 1, none⟩) hbl).trans c1
      have A2 : (wr.alloc (.cells #[.int .i64 pk, .int .i64 pl, .int .i64 pn, .string (St pt)] 32)).cell? ⟨b, off + k * 4 + 2, none⟩ = some (.int .i64 pn) := ((Below.refl wr.heap.size wr).alloc (Nat.le_refl _) (.cells #[.int .i64 pk, .int .i64 pl, .int .i64 pn, .string (St pt)] 32) |>.cell (p := ⟨b, off + k * 4 + 2, none⟩) hbl).trans c2
      have A3 : (wr.alloc (.cells #[.int .i64 pk, .int .i64 pl, .int .i64 pn, .string (St pt)] 32)).cell? ⟨b, off + k * 4 + 3, none⟩ = some (.string (St pt)) := ((Below.refl wr.heap.size wr).alloc (Nat.le_refl _) (.cells #[.int .i64 pk, .int .i64 pl, .int .i64 pn, .string (St pt)] 32) |>.cell (p := ⟨b, off + k * 4 + 3, none⟩) hbl).trans c3
      have hvb : u3.ownBlock ≠ some b := fun e => by have := own_block HW.out.1 b e; omega
      go_wp2
      go_region_held_law (fun v' => v'.cell? ⟨b, off + k * 4, none⟩ = some (.int .i64 pk) ∧ v'.cell? ⟨b, off + k * 4 + 1, none⟩ = some (.int .i64 pl) ∧ v'.cell? ⟨b, off + k * 4 + 2, none⟩ = some (.int .i64 pn) ∧ v'.cell? ⟨b, off + k * 4 + 3, none⟩ = some (.string (St pt)))
        (first | go_keep | assumption | exact ⟨(hgrow.cell_far _ (by simp; omega) (Ne.symm hvb)).trans A0, (hgrow.cell_far _ (by simp; omega) (Ne.symm hvb)).trans A1, (hgrow.cell_far _ (by simp; omega) (Ne.symm hvb)).trans A2, (hgrow.cell_far _ (by simp; omega) (Ne.symm hvb)).trans A3⟩)
        ((refine step_append_lies _ (by rfl) _ _ _ (by rfl) w.heap.size 32 i0 (.agg zeroTP) 4 40 Tryd.underlying22 HI.out.1 HI.out.2.1 HI.out.2.2.1 HI.out.2.2.2 rfl (by decide) _ (l.take k).length (tlCells (l.take k)) (by rfl) (World.ownsRow.alloc HW.out.1 _) ⟨wr.heap.size, 0, none⟩ 1 1 (TL.cells (⟨pk, pn, pt⟩, pl)) (by rfl) rfl (World.news_of_block (heap_alloc_new wr _)) (by have := tlCells_one [(⟨pk, pn, pt⟩, pl)]; simpa [tlCells] using this) (by omega) (by unfold maxLen; omega) (by omega) (by simp; omega) (wr.heap.size + 1) (by simp) ?_; intro g cap w1 hown1 hgrow hat hlt2))
      have hO : OwnTP w1 w.heap.size (.slice (some ⟨g, 0, none⟩) ((l.take k).length + 1) cap) (l.take (k + 1)) := by
        rw [HT.out]
        unfold OwnTP
        rw [tlCells_append, List.length_append]
        simpa [tlCells] using hown1
      have hB : Below w.heap.size w w1 := HW.out.2.trans ((((Below.refl w.heap.size wr).alloc hbs _).drew).grown hgrow (by simp; omega) (own_block HW.out.1))
      have HO : Hid _ := ⟨hO⟩
      have HBB : Hid _ := ⟨hB⟩
      clear hO hB hown1 hgrow
      go_wp2
      go_roundw
      case rel => exact ⟨k + 1, hlt, by go_num, ⟨by have := HO.out; rwa [htl] at this, HBB.out⟩⟩
      case measure => simp [intOf]; omega
    · obtain rfl : k = l.length := by omega
      have hO : OwnTP wr w.heap.size u3 l := by have := HW.out.1; rwa [List.take_of_length_le (Nat.le_refl _)] at this
      have HO : Hid _ := ⟨hO⟩
      clear hO
      go_wp2
      go_ret
      exact ⟨_, rfl, HO.out, HW.out.2⟩

/-- How Print ends. -/
def PrE (m : Except Int (List UInt8)) (e : Ending) : Prop :=
  match m with
  | .error x => e = .returned (.tuple #[.string ⟨#[]⟩, .int .i64 x])
  | .ok a => e = .returned (.tuple #[.string (St a), .int .i64 0])
/-- How the program's Print ends: which error it tells is left open. -/
def PrQ (m : Except Int (List UInt8)) (e : Ending) : Prop :=
  match m with
  | .error _ => ∃ y : Int, ¬ y = 0 ∧ e = .returned (.tuple #[.string ⟨#[]⟩, .int .i64 y])
  | .ok a => e = .returned (.tuple #[.string (St a), .int .i64 0])
/-- What may be printed, as far as memory goes. -/
def Room (l : List TL) : Prop := l.length ≤ 2199023255551 ∧ (∀ p ∈ l, -9223372036854775808 ≤ p.1.n ∧ p.1.n ≤ 9223372036854775807) ∧ (l.map fun p => 4 * p.1.t.length + 32).sum ≤ 35184372088832
/-- The contract of the program's Print. -/
def PPrint : Prop := ∀ (ao : Option Addr) (c : Nat) (l : List TL) (w : World), Er w → Room l → ToksP w ao l → Calls Tryd.prog 15 #[.slice ao l.length c] w fun e w' => PrQ (printM (l.map Prod.fst)) e ∧ Below w.heap.size w w'

/-- What the law wants, so far. -/
def begun (W : List TL) : Bool := match W.getLast? with | none => false | some p => !(p.1.k == 6)
def wantGo : List TL → List TL → List TL
  | [], W => if begun W = true then W ++ [(⟨6, 0, []⟩, 0)] else W
  | p :: r, W => if (p.1.k == 6 && !begun W) = true then wantGo r W else wantGo r (W ++ [p])
theorem begun_snoc (W : List TL) (p : TL) : begun (W ++ [p]) = !(p.1.k == 6) := by simp [begun]
theorem want_is : ∀ (l W : List TL), (wantGo l W).map Prod.fst = W.map Prod.fst ++ wantF (l.map Prod.fst) (begun W)
  | [], W => by
    unfold wantGo
    split
    · rename_i h; simp [wantF, h]
    · rename_i h; simp [wantF, h]
  | p :: r, W => by
    unfold wantGo
    rw [List.map_cons]
    have hwf : wantF (p.1 :: r.map Prod.fst) (begun W) = if p.1.k = 6 then (if begun W = true then p.1 :: wantF (r.map Prod.fst) false else wantF (r.map Prod.fst) false) else p.1 :: wantF (r.map Prod.fst) true := rfl
    rw [hwf]
    by_cases h6 : p.1.k = 6
    · rw [if_pos h6]
      cases hb : begun W
      · rw [if_pos (by simp [h6]), want_is r W, hb]
        simp
      · rw [if_neg (by simp), want_is r (W ++ [p]), begun_snoc, h6]
        simp
    · have hk : (p.1.k == 6) = false := by simpa using h6
      rw [if_neg h6, if_neg (by rw [hk]; simp), want_is r (W ++ [p]), begun_snoc, hk]
      simp
theorem print_len {l : List Tok} {a : List UInt8} (h : printM l = .ok a) : a.length ≤ 65536 := by
  unfold printM at h
  split at h
  · cases h
  · split at h
    · cases h
    · cases h; omega

set_option maxHeartbeats 4000000 in
set_option maxRecDepth 10000 in
theorem lexerBack_bad (HA : PAll) (HP : PPrint) (ao : Option Addr) (c : Nat) (l : List TL) (w : World) (hE : Er w) (hr : Toks w ao l) (hm : Room l) (x : Int) (h : printM (l.map Prod.fst) = .error x) (hx : ¬ x = 0) :
    Calls Tryd.prog 5 #[.slice ao l.length c] w fun e w' => e = .returned (.bool true) ∧ Below w.heap.size w w' := by
  have HT : Hid _ := ⟨tokens_any ao c l w hm.1 hr⟩
  have HPr : Hid (∀ a c W, Below w.heap.size w W → ToksP W a l → Calls Tryd.prog 15 #[.slice a l.length c] W fun e w' => (∃ y : Int, ¬ y = 0 ∧ e = .returned (.tuple #[.string ⟨#[]⟩, .int .i64 y])) ∧ Below W.heap.size W w') := ⟨fun a c W hW ht => by
    have := HP a c l W (hE.below hW hE.sz) hm ht
    rw [h] at this
    exact this⟩
  have HL : Hid (∀ W, Below w.heap.size w W → Calls Tryd.prog 13 #[] W fun e w' => e = .returned (.bool true) ∧ Below W.heap.size W w') := ⟨fun W hW => live_any HA W (hE.below hW hE.sz)⟩
  clear HA HP hr hm h hx
  go_enter Tryd.func5, Tryd.ntmps5
  go_wp2_with (first
    | (go_at_call 14; (with_reducible refine HT.out.mono ?_); rintro e w1 ⟨v1, rfl, o1, hb1⟩; obtain ⟨a1, c1, hv, _⟩ := OwnTP.any o1; subst hv)
    | (go_at_call 15; (with_reducible refine (HPr.out _ _ _ hb1 o1.toks).mono ?_); rintro e w2 ⟨⟨y, hy, rfl⟩, hb2⟩; have qx : (y != 0) = true := (by simpa using hy); have B2 := hb1.trans (hb2.mono hb1.size))
    | (go_at_call 12; refine (num_any _ _).mono ?_; rintro e w' ⟨rfl, hw'⟩; subst w')
    | (go_at_call 13; (with_reducible refine (HL.out _ B2).mono ?_); rintro e w3 ⟨rfl, hb3⟩))
  go_ret
  exact ⟨rfl, B2.trans (hb3.mono B2.size)⟩

set_option maxHeartbeats 4000000 in
set_option maxRecDepth 10000 in
theorem lexerBack_size (HA : PAll) (HP : PPrint) (ao : Option Addr) (c : Nat) (l : List TL) (w : World) (hE : Er w) (hr : Toks w ao l) (hm : Room l) (a : List UInt8) (h : printM (l.map Prod.fst) = .ok a) (h4 : 4000 < (linesM a).length) (ha : allM a = .error (0, 6)) :
    Calls Tryd.prog 5 #[.slice ao l.length c] w fun e w' => e = .returned (.bool true) ∧ Below w.heap.size w w' := by
  have HT : Hid _ := ⟨tokens_any ao c l w hm.1 hr⟩
  have HPr : Hid (∀ a1 c W, Below w.heap.size w W → ToksP W a1 l → Calls Tryd.prog 15 #[.slice a1 l.length c] W fun e w' => e = .returned (.tuple #[.string (St a), .int .i64 0]) ∧ Below W.heap.size W w') := ⟨fun a1 c W hW ht => by
    have := HP a1 c l W (hE.below hW hE.sz) hm ht
    rw [h] at this
    exact this⟩
  have HAl : Hid (∀ W, Below w.heap.size w W → Calls Tryd.prog 9 #[.string (St a)] W fun e w' => e = .returned (.tuple #[.slice none 0 0, .int .i64 0, .int .i64 6]) ∧ Below W.heap.size W w') := ⟨fun W hW => by
    have := HA (St a) W (hE.below hW hE.sz)
    rw [lo_St, ha] at this
    exact this⟩
  have hal := print_len h
  have HLn : Hid (∀ W, Calls Tryd.prog 19 #[.string (St a)] W fun e w' => ∃ ao c, e = .returned (.slice ao (linesM a).length c) ∧ Below W.heap.size W w') := ⟨fun W => by
    have h := rlines_any (St a) W (by rw [St_size]; omega)
    rw [lo_St] at h
    refine h.mono ?_
    rintro e w' ⟨v, rfl, ho, hb⟩
    obtain ⟨ao, c, rfl, _⟩ := OwnS.any ho
    rw [List.length_map]
    exact ⟨ao, c, rfl, hb⟩⟩
  have HL : Hid (∀ W, Below w.heap.size w W → Calls Tryd.prog 13 #[] W fun e w' => e = .returned (.bool true) ∧ Below W.heap.size W w') := ⟨fun W hW => live_any HA W (hE.below hW hE.sz)⟩
  generalize linesM a = LS at *
  have h4i : (4000 : Int) < (LS.length : Int) := by omega
  clear HA HP hr hm h ha h4 hal
  go_enter Tryd.func5, Tryd.ntmps5
  go_wp2_with (first
    | (go_at_call 14; (with_reducible refine HT.out.mono ?_); rintro e w1 ⟨v1, rfl, o1, hb1⟩; obtain ⟨a1, c1, hv, _⟩ := OwnTP.any o1; subst hv)
    | (go_at_call 15; (with_reducible refine (HPr.out _ _ _ hb1 o1.toks).mono ?_); rintro e w2 ⟨rfl, hb2⟩; have B2 := hb1.trans (hb2.mono hb1.size))
    | (go_at_call 9; (with_reducible refine (HAl.out _ B2).mono ?_); rintro e w3 ⟨rfl, hb3⟩; have B3 := B2.trans (hb3.mono B2.size))
    | (go_at_call 19; (with_reducible refine (HLn.out _).mono ?_); rintro e w4 ⟨al, cl, rfl, hb4⟩; have B4 := B3.trans (hb4.mono B3.size))
    | (go_at_call 12; refine (num_any _ _).mono ?_; rintro e w' ⟨rfl, hw'⟩; subst w')
    | (go_at_call 13; (with_reducible refine (HL.out _ B4).mono ?_); rintro e w5 ⟨rfl, hb5⟩))
  go_ret
  exact ⟨rfl, B4.trans (hb5.mono B4.size)⟩

set_option maxHeartbeats 8000000 in
set_option maxRecDepth 10000 in
theorem lexerBack_good (HA : PAll) (HP : PPrint) (ao : Option Addr) (c : Nat) (l : List TL) (w : World) (hE : Er w) (hr : Toks w ao l) (hm : Room l) (a : List UInt8) (h : printM (l.map Prod.fst) = .ok a) (ts : List TL) (ha : allM a = .ok ts) (hw : ts.map Prod.fst = wantF (l.map Prod.fst) false) :
    Calls Tryd.prog 5 #[.slice ao l.length c] w fun e w' => e = .returned (.bool true) ∧ Below w.heap.size w w' := by
  have HT : Hid _ := ⟨tokens_any ao c l w hm.1 hr⟩
  have HPr : Hid (∀ a1 c W, Below w.heap.size w W → ToksP W a1 l → Calls Tryd.prog 15 #[.slice a1 l.length c] W fun e w' => e = .returned (.tuple #[.string (St a), .int .i64 0]) ∧ Below W.heap.size W w') := ⟨fun a1 c W hW ht => by
    have := HP a1 c l W (hE.below hW hE.sz) hm ht
    rw [h] at this
    exact this⟩
  have HAl : Hid (∀ W, Below w.heap.size w W → Calls Tryd.prog 9 #[.string (St a)] W fun e w' => ∃ v, e = .returned (.tuple #[v, .int .i64 0, .int .i64 0]) ∧ OwnTP w' W.heap.size v ts ∧ Below W.heap.size W w') := ⟨fun W hW => by
    have := HA (St a) W (hE.below hW hE.sz)
    rw [lo_St, ha] at this
    exact this⟩
  have htl := all_len ha
  have HL : Hid (∀ W, Below w.heap.size w W → Calls Tryd.prog 13 #[] W fun e w' => e = .returned (.bool true) ∧ Below W.heap.size W w') := ⟨fun W hW => live_any HA W (hE.below hW hE.sz)⟩
  have hAk : Alike ts (wantGo l []) false := ⟨by rw [hw, want_is]; simp [begun], fun e => by cases e⟩
  have HSM : Hid (∀ a1 c1 b1 d1 (m : List TL) W, m = wantGo l [] → ToksP W a1 ts → Toks W b1 m → Calls Tryd.prog 11 #[.slice a1 ts.length c1, .slice b1 m.length d1, .bool false] W fun e w' => e = .returned (.bool true) ∧ Below W.heap.size W w') := ⟨fun a1 c1 b1 d1 m W e h1 h2 => same_any a1 b1 c1 d1 ts m false W htl h1 h2 (by rw [e]; exact hAk)⟩
  have HR : Hid _ := ⟨hr⟩
  have hl1 := hm.1
  clear HA HP hr hm h ha htl hAk hw
  go_enter Tryd.func5, Tryd.ntmps5
  go_wp2_with (first
    | (go_at_call 14; (with_reducible refine HT.out.mono ?_); rintro e w1 ⟨v1, rfl, o1, hb1⟩; obtain ⟨a1, c1, hv, _⟩ := OwnTP.any o1; subst hv)
    | (go_at_call 15; (with_reducible refine (HPr.out _ _ _ hb1 o1.toks).mono ?_); rintro e w2 ⟨rfl, hb2⟩; have B2 := hb1.trans (hb2.mono hb1.size))
    | (go_at_call 9; (with_reducible refine (HAl.out _ B2).mono ?_); rintro e w3 ⟨v3, rfl, o3, hb3⟩; obtain ⟨at3, ct3, hv3, _⟩ := OwnTP.any o3; subst hv3; have HO3 : Hid _ := ⟨o3.toks⟩; have HB3 : Hid _ := ⟨B2.trans (hb3.mono B2.size)⟩; clear o1 o3 hb1 hb2 hb3 B2)
    | fail
    | (go_at_call 12; refine (num_any _ _).mono ?_; rintro e w' ⟨rfl, hw'⟩; subst w')
    | (go_at_call 13; (with_reducible refine (HL.out _ HB3.out).mono ?_); rintro e w5 ⟨rfl, hb5⟩))
  go_loopw [9, 8] (fun i v wr => ∃ (k : Nat) (W : List TL), k ≤ l.length ∧ i = .int .i64 k ∧ Hid (OwnT wr w3.heap.size v W ∧ Below w3.heap.size w3 wr ∧ W.length ≤ k ∧ wantGo l [] = wantGo (l.drop k) W)) (fun i _ _ => l.length - (intOf i).toNat)
  case atStart => exact ⟨0, [], by omega, rfl, ⟨OwnT.nil _ _, Below.refl _ _, by simp, by rw [List.drop_zero]⟩⟩
  case round =>
    obtain ⟨k, W, hk, rfl, HW⟩ := hrel
    obtain ⟨O1, B1, hWl, hS⟩ := HW.out
    have hbs := B1.size
    have HBw : Hid _ := ⟨B1⟩
    obtain ⟨aw, cw, hvw, _, _, hWt, _⟩ := OwnT.any O1
    subst hvw
    have HO : Hid _ := ⟨O1⟩
    by_cases hlt : k < l.length
    · obtain ⟨b, off, rfl, hat⟩ : ∃ b off, ao = some ⟨b, off, none⟩ ∧ ∀ i, i < l.length → TokAt wr b (off + i * 4) (l.getD i TL.none) := by
        rcases (HR.out.below (HB3.out.trans (B1.mono HB3.out.size)) (Nat.le_refl _)) with h | h
        · rw [h] at hlt; simp at hlt
        · exact h
      obtain ⟨c0, c1, c2, c3⟩ := hat k hlt
      have hlti : (k : Int) < (l.length : Int) := by omega
      have hk0 : (0 : Int) ≤ (k : Int) := by omega
      have hget : l.getD k TL.none = l[k] := by simp [hlt]
      rw [List.drop_eq_getElem_cons hlt, ← hget] at hS
      clear hat hget HW O1 B1
      generalize l.getD k TL.none = p at *
      obtain ⟨⟨pk, pn, pt⟩, pl⟩ := p
      dsimp only at c0 c1 c2 c3
      have hw1 : wantGo ((⟨pk, pn, pt⟩, pl) :: l.drop (k + 1)) W = if (pk == 6 && !begun W) = true then wantGo (l.drop (k + 1)) W else wantGo (l.drop (k + 1)) (W ++ [(⟨pk, pn, pt⟩, pl)]) := rfl
      rw [hw1] at hS
      clear hw1
      cases h6 : (pk == 6)
      · rw [h6] at hS
        have HA1 : Hid (wantGo l [] = wantGo (l.drop (k + 1)) (W ++ [(⟨pk, pn, pt⟩, pl)])) := ⟨hS⟩
        clear hS hWt
        go_wp2_with (at_builtin; refine append_tok _ rfl _ _ rfl w3.heap.size _ W pk pl pn pt _ rfl HO.out rfl _ rfl rfl (by omega) hbs ?_; intro v2 w9 ho2 hb2)
        go_roundw
        case rel => exact ⟨k + 1, W ++ [(⟨pk, pn, pt⟩, pl)], hlt, by go_num, ⟨ho2, HBw.out.trans hb2, by simp; omega, HA1.out⟩⟩
        case measure => simp [intOf]; omega
      · rw [h6] at hS
        by_cases hW0 : W.length = 0
        · have hWz : ((W.length : Int) == 0) = true := by rw [hW0]; rfl
          have hWe : W = [] := List.eq_nil_of_length_eq_zero hW0
          have HS : Hid (wantGo l [] = wantGo (l.drop (k + 1)) W) := ⟨by rw [hS, hWe]; rfl⟩
          clear hS hWt hWe hW0
          go_wp2
          go_roundw
          case rel => exact ⟨k + 1, W, hlt, by go_num, ⟨HO.out, HBw.out, by omega, HS.out⟩⟩
          case measure => simp [intOf]; omega
        · have hWz : ((W.length : Int) == 0) = false := by rw [beq_eq_false_iff_ne]; omega
          have hWn : W.length ≠ 0 := hW0
          obtain ⟨bw, ow, rfl, hatw⟩ : ∃ b off, aw = some ⟨b, off, none⟩ ∧ ∀ i, i < W.length → TokAt wr b (off + i * 4) (W.getD i TL.none) := by
            rcases hWt with h | h
            · rw [h] at hWn; simp at hWn
            · exact h
          obtain ⟨d0, _, _, _⟩ := hatw (W.length - 1) (by omega)
          have hlast : W.getLast? = some (W.getD (W.length - 1) TL.none) := by
            rw [List.getLast?_eq_getElem?, List.getD_eq_getElem?_getD]
            have : W.length - 1 < W.length := by omega
            simp [this]
          have hbg : begun W = !((W.getD (W.length - 1) TL.none).1.k == 6) := by unfold begun; rw [hlast]
          generalize W.getD (W.length - 1) TL.none = q at *
          obtain ⟨⟨qk, qn, qt⟩, ql⟩ := q
          dsimp only at d0 hbg
          obtain ⟨n, hn⟩ : ∃ n, W.length = n + 1 := ⟨W.length - 1, by omega⟩
          rw [hn] at d0
          rw [show n + 1 - 1 = n by omega] at d0
          have hni : (n : Int) < ((n + 1 : Nat) : Int) := by omega
          have hn0 : (0 : Int) ≤ (n : Int) := by omega
          have hsub : ((n + 1 : Nat) : Int) - 1 = (n : Int) := by omega
          have hsub2 : (W.length : Int) - 1 = (n : Int) := by omega
          have hnw : (n : Int) < (W.length : Int) := by omega
          have hsw : IntKind.i64.wrap ((W.length : Int) - 1) = (n : Int) := by rw [IntKind.wrap_i64]; omega
          have HN : Hid _ := ⟨hn⟩
          cases hq6 : (qk == 6)
          · rw [hbg, hq6] at hS
            have HA1 : Hid (wantGo l [] = wantGo (l.drop (k + 1)) (W ++ [(⟨pk, pn, pt⟩, pl)])) := ⟨hS⟩
            clear hS hWt hatw hlast hbg hn hW0 hWn
            go_wp2_with (at_builtin; refine append_tok _ rfl _ _ rfl w3.heap.size _ W pk pl pn pt _ rfl HO.out rfl _ rfl rfl (by omega) hbs ?_; intro v2 w9 ho2 hb2)
            go_roundw
            case rel => exact ⟨k + 1, W ++ [(⟨pk, pn, pt⟩, pl)], hlt, by go_num, ⟨ho2, HBw.out.trans hb2, by simp; omega, HA1.out⟩⟩
            case measure => simp [intOf]; omega
          · rw [hbg, hq6] at hS
            have HS : Hid (wantGo l [] = wantGo (l.drop (k + 1)) W) := ⟨hS⟩
            clear hS hWt hatw hlast hbg hn hW0 hWn
            go_wp2
            go_roundw
            case rel => exact ⟨k + 1, W, hlt, by go_num, ⟨HO.out, HBw.out, by omega, HS.out⟩⟩
            case measure => simp [intOf]; omega
    · obtain rfl : k = l.length := by omega
      rw [List.drop_length] at hS
      have hwe : wantGo [] W = if begun W = true then W ++ [(⟨6, 0, []⟩, 0)] else W := rfl
      rw [hwe] at hS
      clear hwe HW O1 B1
      by_cases hW0 : W.length = 0
      · have hWz : ¬ (0 : Int) < (W.length : Int) := by omega
        have hWe : W = [] := List.eq_nil_of_length_eq_zero hW0
        have HE : Hid (W = wantGo l []) := ⟨by rw [hS, hWe]; rfl⟩
        have HWt : Hid _ := ⟨hWt⟩
        clear hS hWt hWe hW0
        go_wp2_with (first
          | (go_at_call 11; (with_reducible refine (HSM.out _ _ _ _ W _ HE.out (HO3.out.below HBw.out (Nat.le_refl _)) HWt.out).mono ?_); rintro e w6 ⟨rfl, hb6⟩)
          | (go_at_call 13; (with_reducible refine (HL.out _ ((HB3.out.trans (HBw.out.mono HB3.out.size)).trans (hb6.mono (HB3.out.trans (HBw.out.mono HB3.out.size)).size))).mono ?_); rintro e w7 ⟨rfl, hb7⟩))
        go_ret
        have BB := HB3.out.trans (HBw.out.mono HB3.out.size)
        exact ⟨rfl, (BB.trans (hb6.mono BB.size)).trans (hb7.mono (BB.trans (hb6.mono BB.size)).size)⟩
      · have hWz : (0 : Int) < (W.length : Int) := by omega
        have HWt : Hid _ := ⟨hWt⟩
        have hWn : W.length ≠ 0 := hW0
        obtain ⟨bw, ow, rfl, hatw⟩ : ∃ b off, aw = some ⟨b, off, none⟩ ∧ ∀ i, i < W.length → TokAt wr b (off + i * 4) (W.getD i TL.none) := by
          rcases hWt with h | h
          · rw [h] at hWn; simp at hWn
          · exact h
        obtain ⟨d0, _, _, _⟩ := hatw (W.length - 1) (by omega)
        have hlast : W.getLast? = some (W.getD (W.length - 1) TL.none) := by
          rw [List.getLast?_eq_getElem?, List.getD_eq_getElem?_getD]
          have : W.length - 1 < W.length := by omega
          simp [this]
        have hbg : begun W = !((W.getD (W.length - 1) TL.none).1.k == 6) := by unfold begun; rw [hlast]
        generalize W.getD (W.length - 1) TL.none = q at *
        obtain ⟨⟨qk, qn, qt⟩, ql⟩ := q
        dsimp only at d0 hbg
        obtain ⟨n, hn⟩ : ∃ n, W.length = n + 1 := ⟨W.length - 1, by omega⟩
        rw [hn] at d0
        rw [show n + 1 - 1 = n by omega] at d0
        have hn0 : (0 : Int) ≤ (n : Int) := by omega
        have hnw : (n : Int) < (W.length : Int) := by omega
        have hsub2 : (W.length : Int) - 1 = (n : Int) := by omega
        have hsw : IntKind.i64.wrap ((W.length : Int) - 1) = (n : Int) := by rw [IntKind.wrap_i64]; omega
        cases hq6 : (qk == 6)
        · have hq6n : (qk != 6) = true := by simp [bne, hq6]
          rw [hbg, hq6] at hS
          obtain ⟨W2, hW2⟩ : ∃ W2 : List TL, W ++ [(⟨6, 0, []⟩, 0)] = W2 := ⟨_, rfl⟩
          have HE : Hid (W2 = wantGo l []) := ⟨by rw [← hW2]; exact hS.symm⟩
          have HW2 : Hid _ := ⟨hW2⟩
          clear hW2
          clear hS hWt hatw hlast hbg hn hW0 hWn
          go_wp2_with (first
            | (at_builtin; refine append_tok _ rfl _ _ rfl w3.heap.size _ W 6 0 0 [] _ rfl HO.out rfl _ rfl rfl (by omega) hbs ?_; intro v2 w9 ho2 hb2; have B9 := HBw.out.trans hb2; rw [HW2.out] at ho2; obtain ⟨a9, c9, hv9, _, _, ht9, _⟩ := OwnT.any ho2; subst hv9)
            | (go_at_call 11; (with_reducible refine (HSM.out _ _ _ _ W2 _ HE.out (HO3.out.below B9 (Nat.le_refl _)) ht9).mono ?_); rintro e w6 ⟨rfl, hb6⟩)
            | (go_at_call 13; (with_reducible refine (HL.out _ ((HB3.out.trans (B9.mono HB3.out.size)).trans (hb6.mono (HB3.out.trans (B9.mono HB3.out.size)).size))).mono ?_); rintro e w7 ⟨rfl, hb7⟩))
          go_ret
          have BB := HB3.out.trans (B9.mono HB3.out.size)
          exact ⟨rfl, (BB.trans (hb6.mono BB.size)).trans (hb7.mono (BB.trans (hb6.mono BB.size)).size)⟩
        · have hq6n : (qk != 6) = false := by simp [bne, hq6]
          rw [hbg, hq6] at hS
          have HE : Hid (W = wantGo l []) := ⟨hS.symm⟩
          clear hS hWt hatw hlast hbg hn hW0 hWn
          go_wp2_with (first
            | (go_at_call 11; (with_reducible refine (HSM.out _ _ _ _ W _ HE.out (HO3.out.below HBw.out (Nat.le_refl _)) HWt.out).mono ?_); rintro e w6 ⟨rfl, hb6⟩)
            | (go_at_call 13; (with_reducible refine (HL.out _ ((HB3.out.trans (HBw.out.mono HB3.out.size)).trans (hb6.mono (HB3.out.trans (HBw.out.mono HB3.out.size)).size))).mono ?_); rintro e w7 ⟨rfl, hb7⟩))
          go_ret
          have BB := HB3.out.trans (HBw.out.mono HB3.out.size)
          exact ⟨rfl, (BB.trans (hb6.mono BB.size)).trans (hb7.mono (BB.trans (hb6.mono BB.size)).size)⟩

theorem print_x {l : List Tok} {x : Int} (h : printM l = .error x) : ¬ x = 0 := by
  unfold printM at h
  split at h
  · cases h; decide
  · split at h
    · cases h; decide
    · cases h

theorem lexerBack_walk (HA : PAll) (HP : PPrint) (ao : Option Addr) (c : Nat) (l : List TL) (w : World) (hE : Er w) (hr : Toks w ao l) (hm : Room l) :
    Calls Tryd.prog 5 #[.slice ao l.length c] w fun e w' => e = .returned (.bool true) ∧ Below w.heap.size w w' := by
  cases h : printM (l.map Prod.fst) with
  | error x => exact lexerBack_bad HA HP ao c l w hE hr hm x h (print_x h)
  | ok a =>
    rcases back_whole (l.map Prod.fst) a (fun t ht => by
      obtain ⟨p, hp, rfl⟩ := List.mem_map.1 ht
      exact hm.2.1 p hp) h with ⟨h4, he⟩ | ⟨ts, he, hw⟩
    · exact lexerBack_size HA HP ao c l w hE hr hm a h h4 he
    · exact lexerBack_good HA HP ao c l w hE hr hm a h ts he hw
end Go.Proofs.YthdkbjifjmhgoaaDoor
